import Derived.Test.YtjolflpmeodnaagDoorRcScM
namespace Go.Proofs.YtjolflpmeodnaagDoor
open Go.RowKit
set_option linter.unusedVariables false
set_option linter.unusedSimpArgs false

theorem fs_frame {r : Rc} (h : mayB6 r = true) (hd : Bytey r.data) (t : List Int) : fsR (frB r ++ t) = (r, ((frB r).length : Int)) := by
  have h1 := prB_len h
  have h2 := crs_lt (prB_bytey h hd)
  have h3 := frB_len r
  have e0 : frB r ++ t = wd4 ((prB r).length : Nat) ++ (wd4 ((crs (prB r) : Nat) : Int) ++ (prB r ++ t)) := by unfold frB; simp only [List.append_assoc]
  have e1 : vl4 (frB r ++ t) = ((prB r).length : Nat) := by rw [e0]; exact vl4_wd4 _ _ (by omega)
  have e2 : (frB r ++ t).drop 4 = wd4 ((crs (prB r) : Nat) : Int) ++ (prB r ++ t) := by rw [e0]; rfl
  have e3 : (frB r ++ t).drop 8 = prB r ++ t := by rw [e0]; rfl
  unfold fsR
  rw [if_neg (by rw [List.length_append]; omega), e1, e2, e3, vl4_wd4 _ _ (by omega), if_neg (by rw [List.length_append]; omega), Int.toNat_natCast, List.take_left, read_back h, if_neg (by simp), h3]
  simp
theorem vl4_take {zs : List Int} {k : Nat} (hk : 4 ≤ k) : vl4 (zs.take k) = vl4 zs := by
  unfold vl4
  simp only [List.getD_eq_getElem?_getD]
  rw [List.getElem?_take_of_lt (by omega), List.getElem?_take_of_lt (by omega), List.getElem?_take_of_lt (by omega), List.getElem?_take_of_lt (by omega)]
theorem fs_short {r : Rc} (h : mayB6 r = true) {k : Nat} (hk : k < (frB r).length) : (fsR ((frB r).take k)).2 = 0 := by
  have h1 := prB_len h
  have h3 := frB_len r
  unfold fsR
  by_cases h8 : k < 8
  · rw [if_pos (by rw [List.length_take]; omega)]
  · rw [if_neg (by rw [List.length_take]; omega), if_pos]
    right
    rw [vl4_take (by omega)]
    have e1 : vl4 (frB r) = ((prB r).length : Nat) := by unfold frB; exact vl4_wd4 _ _ (by omega)
    rw [e1, List.length_take]
    omega
theorem fs_nil : (fsR []).2 = 0 := by unfold fsR; rfl
theorem fs_turn {r : Rc} (h : mayB6 r = true) (hd : Bytey r.data) {o : Nat} {x y : Int} (hx : 0 ≤ x ∧ x ≤ 255) (h4 : 4 ≤ o) (ho : (frB r)[o]? = some y) (hne : x ≠ y) (t : List Int) : (fsR ((frB r).set o x ++ t)).2 = 0 := by
  have h1 := prB_len h
  have hpb := prB_bytey h hd
  have h2 := crs_lt hpb
  have h3 := frB_len r
  have hol : o < (frB r).length := (List.getElem?_eq_some_iff.mp ho).1
  have e0 : (frB r).set o x ++ t = wd4 ((prB r).length : Nat) ++ ((wd4 ((crs (prB r) : Nat) : Int) ++ prB r).set (o - 4) x ++ t) := by
    unfold frB
    rw [List.set_append_right _ _ (by simp [wd4]; omega), List.append_assoc]
    rfl
  have e1 : vl4 ((frB r).set o x ++ t) = ((prB r).length : Nat) := by rw [e0]; exact vl4_wd4 _ _ (by omega)
  have e2 : ((frB r).set o x ++ t).drop 4 = (wd4 ((crs (prB r) : Nat) : Int) ++ prB r).set (o - 4) x ++ t := by rw [e0]; rfl
  have hy : (wd4 ((crs (prB r) : Nat) : Int) ++ prB r)[o - 4]? = some y := by
    unfold frB at ho
    rw [List.getElem?_append_right (by simp [wd4]; omega)] at ho
    exact ho
  unfold fsR
  rw [if_neg (by rw [List.length_append, List.length_set]; omega), e1, if_neg (by rw [List.length_append, List.length_set]; omega), if_pos]
  rw [Int.toNat_natCast]
  by_cases h8 : o < 8
  · have e3 : ((frB r).set o x ++ t).drop 8 = prB r ++ t := by
      rw [show (8 : Nat) = 4 + 4 by rfl, ← List.drop_drop, e2, List.set_append_left _ _ (by simp [wd4]; omega), List.append_assoc, List.drop_left' (by simp [wd4])]
    rw [e3, e2, List.take_left, List.set_append_left _ _ (by simp [wd4]; omega), List.append_assoc]
    rw [List.getElem?_append_left (by simp [wd4]; omega)] at hy
    generalize crs (prB r) = s at *
    have : o = 4 ∨ o = 5 ∨ o = 6 ∨ o = 7 := by omega
    rcases this with rfl | rfl | rfl | rfl <;> simp [wd4, vl4] at hy ⊢ <;> omega
  · have e3 : ((frB r).set o x ++ t).drop 8 = (prB r).set (o - 8) x ++ t := by
      rw [show (8 : Nat) = 4 + 4 by rfl, ← List.drop_drop, e2, List.set_append_right _ _ (by simp [wd4]; omega), List.append_assoc, List.drop_left' (by simp [wd4])]
      rfl
    have hy2 : (prB r)[o - 8]? = some y := by
      rw [List.getElem?_append_right (by simp [wd4]; omega)] at hy
      rw [← hy]
      congr 1
    rw [e3, e2, List.take_left' (by simp), List.set_append_right _ _ (by simp [wd4]; omega), List.append_assoc, vl4_wd4 _ _ (by omega)]
    intro e
    have e' : crs ((prB r).set (o - 8) x) = crs (prB r) := by omega
    exact hne ((crs_set hy2 hpb hx).mp e')

theorem scd_frames : ∀ (n : Nat) (l : List Rc) (t : List Int), l.length = n → (∀ r ∈ l, mayB6 r = true ∧ Bytey r.data) → Bytey (l.flatMap frB ++ t) → Scd (l.flatMap frB ++ t) l (l.flatMap frB).length
  | 0, l, t, hl, h, hb => by
    obtain rfl := List.eq_nil_of_length_eq_zero hl
    exact Scd.start _
  | n + 1, l, t, hl, h, hb => by
    have hne : l ≠ [] := by intro e; rw [e] at hl; simp at hl
    obtain ⟨l', r, rfl⟩ : ∃ l' r, l = l' ++ [r] := ⟨l.dropLast, l.getLast hne, (List.dropLast_concat_getLast hne).symm⟩
    have hr := h r (by simp)
    have e : (l' ++ [r]).flatMap frB ++ t = l'.flatMap frB ++ (frB r ++ t) := by simp [List.append_assoc]
    rw [e] at hb ⊢
    have h1 := scd_frames n l' (frB r ++ t) (by simpa using hl) (fun q hq => h q (by simp [hq])) hb
    have h2 := fs_frame hr.1 hr.2 t
    have h3 := frB_len r
    have hdr : (l'.flatMap frB ++ (frB r ++ t)).drop (l'.flatMap frB).length = frB r ++ t := List.drop_left
    have h4 := h1.step hb (by rw [hdr, h2]; simp only; omega)
    rw [hdr, h2] at h4
    simp only [Int.toNat_natCast] at h4
    rw [show ((l' ++ [r]).flatMap frB).length = (l'.flatMap frB).length + (frB r).length by simp]
    exact h4
theorem fr_bytey {l : List Rc} (h : ∀ r ∈ l, mayB6 r = true ∧ Bytey r.data) : Bytey (l.flatMap frB) := by
  refine bytey_flat (fun r hr => ?_)
  obtain ⟨h1, h2⟩ := h r hr
  have h3 := prB_len h1
  have hpb := prB_bytey h1 h2
  have h4 := crs_lt hpb
  have hw : ∀ n : Int, 0 ≤ n ∧ n < 4294967296 → Bytey (wd4 n) := fun n hn z hz => by
    simp only [wd4, List.mem_cons, List.not_mem_nil, or_false] at hz
    rcases hz with rfl | rfl | rfl | rfl <;> omega
  unfold frB
  exact bytey_app (hw _ (by omega)) (bytey_app (hw _ (by omega)) hpb)
theorem scR_all {l : List Rc} (h : ∀ r ∈ l, mayB6 r = true ∧ Bytey r.data) : scR (l.flatMap frB) = (l, (l.flatMap frB).length) := by
  have h1 := scd_frames l.length l [] rfl h (by rw [List.append_nil]; exact fr_bytey h)
  rw [List.append_nil] at h1
  exact h1.fin (by rw [List.drop_length]; exact fs_nil)
theorem scR_more {l : List Rc} {t : List Int} (h : ∀ r ∈ l, mayB6 r = true ∧ Bytey r.data) (ht : Bytey t) : ∃ m k, scR (l.flatMap frB ++ t) = (l ++ m, (l.flatMap frB).length + k) := by
  have h1 := scd_frames l.length l t rfl h (bytey_app (fr_bytey h) ht)
  have h2 := h1.all ((l.flatMap frB ++ t).length - l.length)
  have h3 := h1.cnt
  have h4 := h1.len
  rw [show (l.flatMap frB ++ t).length - l.length + l.length = (l.flatMap frB ++ t).length by omega] at h2
  exact ⟨_, _, h2⟩
theorem fr_split (l : List Rc) {k : Nat} (hk : k < l.length) : l = l.take k ++ l[k] :: l.drop (k + 1) := by
  rw [← List.drop_eq_getElem_cons hk, List.take_append_drop]
theorem fr_take (l : List Rc) {k : Nat} (hk : k < l.length) : (l.take (k + 1)).flatMap frB = (l.take k).flatMap frB ++ frB l[k] := by
  rw [List.take_succ_eq_append_getElem hk, List.flatMap_append]
  simp
/-- Of frames that are cut, those that stand whole. -/
theorem scR_cut {l : List Rc} (h : ∀ r ∈ l, mayB6 r = true ∧ Bytey r.data) {k c : Nat} (hk : k < l.length) (h1 : ((l.take k).flatMap frB).length ≤ c) (h2 : c < ((l.take (k + 1)).flatMap frB).length) :
    scR ((l.flatMap frB).take c) = (l.take k, ((l.take k).flatMap frB).length) := by
  have hm : l[k] ∈ l := List.getElem_mem hk
  have ht : ∀ r ∈ l.take k, mayB6 r = true ∧ Bytey r.data := fun r hr => h r (List.mem_of_mem_take hr)
  rw [fr_take l hk, List.length_append] at h2
  have e : (l.flatMap frB).take c = (l.take k).flatMap frB ++ (frB l[k]).take (c - ((l.take k).flatMap frB).length) := by
    have e1 : l.flatMap frB = (l.take k).flatMap frB ++ (frB l[k] ++ (l.drop (k + 1)).flatMap frB) := by
      have := congrArg (List.flatMap frB) (fr_split l hk)
      rw [List.flatMap_append, List.flatMap_cons] at this
      exact this
    rw [e1, List.take_append, List.take_of_length_le h1, List.take_append_of_le_length (by omega)]
  rw [e]
  have hbt : Bytey (frB l[k]) := by
    have := fr_bytey (l := [l[k]]) (fun r hr => by simp at hr; rw [hr]; exact h _ hm)
    simpa using this
  have h3 := scd_frames _ (l.take k) ((frB l[k]).take (c - ((l.take k).flatMap frB).length)) rfl ht (bytey_app (fr_bytey ht) (bytTake hbt _))
  exact h3.fin (by rw [List.drop_left]; exact fs_short (h _ hm).1 (by omega))
/-- Of frames in which a byte is turned, those ahead of it. -/
theorem scR_turn {l : List Rc} (h : ∀ r ∈ l, mayB6 r = true ∧ Bytey r.data) {k p : Nat} {x y : Int} (hk : k < l.length) (h1 : ((l.take k).flatMap frB).length + 4 ≤ p) (h2 : p < ((l.take (k + 1)).flatMap frB).length) (hy : (l.flatMap frB)[p]? = some y) (hx : 0 ≤ x ∧ x ≤ 255) (hne : x ≠ y) :
    scR ((l.flatMap frB).set p x) = (l.take k, ((l.take k).flatMap frB).length) := by
  have hm : l[k] ∈ l := List.getElem_mem hk
  have ht : ∀ r ∈ l.take k, mayB6 r = true ∧ Bytey r.data := fun r hr => h r (List.mem_of_mem_take hr)
  rw [fr_take l hk, List.length_append] at h2
  have e1 : l.flatMap frB = (l.take k).flatMap frB ++ (frB l[k] ++ (l.drop (k + 1)).flatMap frB) := by
    have := congrArg (List.flatMap frB) (fr_split l hk)
    rw [List.flatMap_append, List.flatMap_cons] at this
    exact this
  have hb := fr_bytey h
  have hbs : Bytey ((l.flatMap frB).set p x) := fun z hz => by
    rcases List.mem_or_eq_of_mem_set hz with q | q
    · exact hb z q
    · rw [q]; exact hx
  rw [e1] at hy hbs ⊢
  rw [List.getElem?_append_right (by omega), List.getElem?_append_left (by omega)] at hy
  rw [List.set_append_right _ _ (by omega), List.set_append_left _ _ (by omega)] at hbs ⊢
  have h3 := scd_frames _ (l.take k) _ rfl ht hbs
  exact h3.fin (by rw [List.drop_left]; exact fs_turn (h _ hm).1 (h _ hm).2 hx (by omega) hy hne _)
end Go.Proofs.YtjolflpmeodnaagDoor
