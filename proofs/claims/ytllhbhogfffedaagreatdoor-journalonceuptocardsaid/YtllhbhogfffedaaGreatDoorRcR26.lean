import Derived.Test.YtllhbhogfffedaaGreatDoorRcLtr
import Derived.Test.YtllhbhogfffedaaGreatDoorRcOwe
import Derived.Deep.RegionHeld3
namespace Go.Proofs.YtllhbhogfffedaaGreatDoor
open Go.RowKit
set_option linter.unusedVariables false
set_option linter.unusedSimpArgs false

def cpL (r s : Rc) (c : UInt8) : Rc := if c = 68 then { s with data := r.data } else if c = 83 then { s with spans := r.spans } else setN s (ltL.idxOf c) (nmA r (ltL.idxOf c))
theorem num2_fwd {n : Int} (t : List Int) (h0 : 0 ≤ n) (h1 : n ≤ 4611686018427387903) : num2P (some (enc n ++ t)) = (n, some t) := by
  unfold num2P; simp only [numP_enc t h0 h1]
theorem sp2_fwd : ∀ (n : Nat) (l : List (Int × Int)) (t : List Int), l.length = n → SpOk l → sp2P n (some (l.flatMap spB1 ++ t)) = (l, some t)
  | 0, l, t, hl, h => by
    obtain rfl := List.eq_nil_of_length_eq_zero hl
    rfl
  | n + 1, l, t, hl, h => by
    have hne : l ≠ [] := by intro e; rw [e] at hl; simp at hl
    obtain ⟨l', p, rfl⟩ : ∃ l' p, l = l' ++ [p] := ⟨l.dropLast, l.getLast hne, (List.dropLast_concat_getLast hne).symm⟩
    have hp := h p (by simp)
    have h1 := sp2_fwd n l' (spB1 p ++ t) (by simpa using hl) (fun q hq => h q (by simp [hq]))
    rw [List.flatMap_append, List.append_assoc, List.flatMap_cons, List.flatMap_nil, List.append_nil]
    simp only [sp2P, h1]
    obtain ⟨a, b⟩ := p
    simp only at hp
    have e1 : num2P (some (spB1 (a, b) ++ t)) = (a, some (enc (b - a) ++ t)) := by unfold spB1; rw [List.append_assoc]; exact num2_fwd _ (by omega) (by omega)
    have e2 : num2P (some (enc (b - a) ++ t)) = (b - a, some t) := num2_fwd _ (by omega) (by omega)
    rw [e1]
    simp only [e2]
    rw [if_neg (by omega), show a + (b - a) = b by omega]
theorem upL_fwd {r : Rc} (hm : mayB6 r = true) (s : Rc) (t : List Int) {c : UInt8} (hc : c ∈ fsB r.kind) : upL (s, some (ltB r c ++ t)) c = (cpL r s c, some t) := by
  obtain ⟨h1, h2, h3, h4⟩ := may_parts hm
  rcases let_cases h1 hc with ⟨rfl, h9⟩ | ⟨rfl, h8⟩ | ⟨j, hj, rfl⟩
  · have q := h4 h9
    rw [upL68, ltB68]
    unfold cpL
    rw [if_pos rfl]
    have e : num2P (some (enc (r.data.length : Int) ++ r.data ++ t)) = ((r.data.length : Int), some (r.data ++ t)) := by rw [List.append_assoc]; exact num2_fwd _ (by omega) (by omega)
    have e2 : byt2P (some (enc (r.data.length : Int) ++ r.data ++ t)) = (r.data, some t) := by
      rw [byt2_eq, e]
      simp only
      rw [if_pos (by rw [List.length_append]; omega), Int.toNat_natCast, List.take_left, List.drop_left]
    simp only [e2]
  · obtain ⟨q1, q2⟩ := h3 h8
    rw [upL83, ltB83]
    unfold cpL
    rw [if_neg (by decide), if_pos rfl]
    have e2 : sps2P (some (spB r.spans ++ t)) = (r.spans, some t) := by
      unfold sps2P spB
      rw [List.append_assoc, num2_fwd _ (by omega) (by omega)]
      simp only [Int.toNat_natCast]
      exact sp2_fwd _ _ _ rfl q2
    simp only [e2]
  · have q := okN_bd (okNs_at h2 hj)
    rw [upLn _ j hj, ltBn r j hj]
    unfold cpL
    rw [if_neg (lt_ne j hj).1, if_neg (lt_ne j hj).2, idx_lt j hj]
    simp only [num2_fwd t q.1 q.2]
theorem run_fwd {r : Rc} (hm : mayB6 r = true) (t : List Int) : ∀ (cs : List UInt8) (s : Rc), (∀ c ∈ cs, c ∈ fsB r.kind) → runL (s, some (cs.flatMap (ltB r) ++ t)) cs = (cs.foldl (cpL r) s, some t)
  | [], s, h => by simp [runL]
  | c :: cs, s, h => by
    rw [List.flatMap_cons, List.append_assoc]
    show runL (upL (s, some (ltB r c ++ (cs.flatMap (ltB r) ++ t))) c) cs = _
    rw [upL_fwd hm s _ (h c (by simp))]
    exact run_fwd hm t cs _ (fun d hd => h d (List.mem_cons_of_mem _ hd))
theorem fold1 {r : Rc} (h : mayB6 r = true) (hk : r.kind = 1) : (fsB r.kind).foldl (cpL r) (mkR r.kind []) = r := by
  obtain ⟨h1, h2, h3, h4⟩ := may_parts h
  obtain ⟨h5, h6⟩ := may_lists h
  rw [hk] at h2 h5 h6
  have e1 : r.num = 0 := okN_zero (okNs_at h2 (show 1 < 8 by omega)) (by decide)
  have e2 : r.peer = 0 := okN_zero (okNs_at h2 (show 2 < 8 by omega)) (by decide)
  have e3 : r.srv = 0 := okN_zero (okNs_at h2 (show 3 < 8 by omega)) (by decide)
  have e4 : r.off = 0 := okN_zero (okNs_at h2 (show 4 < 8 by omega)) (by decide)
  have e5 : r.red = 0 := okN_zero (okNs_at h2 (show 5 < 8 by omega)) (by decide)
  have e7 : r.how = 0 := okN_zero (okNs_at h2 (show 7 < 8 by omega)) (by decide)
  have e8 : r.spans = [] := h5 (by decide)
  have e9 : r.data = [] := h6 (by decide)
  clear h h1 h2 h3 h4 h5 h6
  cases r
  simp only at *
  subst hk e1 e2 e3 e4 e5 e7 e8 e9
  rfl
theorem fold2 {r : Rc} (h : mayB6 r = true) (hk : r.kind = 2) : (fsB r.kind).foldl (cpL r) (mkR r.kind []) = r := by
  obtain ⟨h1, h2, h3, h4⟩ := may_parts h
  obtain ⟨h5, h6⟩ := may_lists h
  rw [hk] at h2 h5 h6
  have e0 : r.org = 0 := okN_zero (okNs_at h2 (show 0 < 8 by omega)) (by decide)
  have e1 : r.num = 0 := okN_zero (okNs_at h2 (show 1 < 8 by omega)) (by decide)
  have e2 : r.peer = 0 := okN_zero (okNs_at h2 (show 2 < 8 by omega)) (by decide)
  have e3 : r.srv = 0 := okN_zero (okNs_at h2 (show 3 < 8 by omega)) (by decide)
  have e4 : r.off = 0 := okN_zero (okNs_at h2 (show 4 < 8 by omega)) (by decide)
  have e5 : r.red = 0 := okN_zero (okNs_at h2 (show 5 < 8 by omega)) (by decide)
  have e7 : r.how = 0 := okN_zero (okNs_at h2 (show 7 < 8 by omega)) (by decide)
  have e8 : r.spans = [] := h5 (by decide)
  have e9 : r.data = [] := h6 (by decide)
  clear h h1 h2 h3 h4 h5 h6
  cases r
  simp only at *
  subst hk e0 e1 e2 e3 e4 e5 e7 e8 e9
  rfl
theorem fold3 {r : Rc} (h : mayB6 r = true) (hk : r.kind = 3) : (fsB r.kind).foldl (cpL r) (mkR r.kind []) = r := by
  obtain ⟨h1, h2, h3, h4⟩ := may_parts h
  obtain ⟨h5, h6⟩ := may_lists h
  rw [hk] at h2 h5 h6
  have e4 : r.off = 0 := okN_zero (okNs_at h2 (show 4 < 8 by omega)) (by decide)
  have e7 : r.how = 0 := okN_zero (okNs_at h2 (show 7 < 8 by omega)) (by decide)
  have e8 : r.spans = [] := h5 (by decide)
  clear h h1 h2 h3 h4 h5 h6
  cases r
  simp only at *
  subst hk e4 e7 e8
  rfl
theorem fold4 {r : Rc} (h : mayB6 r = true) (hk : r.kind = 4) : (fsB r.kind).foldl (cpL r) (mkR r.kind []) = r := by
  obtain ⟨h1, h2, h3, h4⟩ := may_parts h
  obtain ⟨h5, h6⟩ := may_lists h
  rw [hk] at h2 h5 h6
  have e2 : r.peer = 0 := okN_zero (okNs_at h2 (show 2 < 8 by omega)) (by decide)
  have e3 : r.srv = 0 := okN_zero (okNs_at h2 (show 3 < 8 by omega)) (by decide)
  have e4 : r.off = 0 := okN_zero (okNs_at h2 (show 4 < 8 by omega)) (by decide)
  have e5 : r.red = 0 := okN_zero (okNs_at h2 (show 5 < 8 by omega)) (by decide)
  have e6 : r.size = 0 := okN_zero (okNs_at h2 (show 6 < 8 by omega)) (by decide)
  have e8 : r.spans = [] := h5 (by decide)
  have e9 : r.data = [] := h6 (by decide)
  clear h h1 h2 h3 h4 h5 h6
  cases r
  simp only at *
  subst hk e2 e3 e4 e5 e6 e8 e9
  rfl
theorem fold5 {r : Rc} (h : mayB6 r = true) (hk : r.kind = 5) : (fsB r.kind).foldl (cpL r) (mkR r.kind []) = r := by
  obtain ⟨h1, h2, h3, h4⟩ := may_parts h
  obtain ⟨h5, h6⟩ := may_lists h
  rw [hk] at h2 h5 h6
  have e2 : r.peer = 0 := okN_zero (okNs_at h2 (show 2 < 8 by omega)) (by decide)
  have e3 : r.srv = 0 := okN_zero (okNs_at h2 (show 3 < 8 by omega)) (by decide)
  have e4 : r.off = 0 := okN_zero (okNs_at h2 (show 4 < 8 by omega)) (by decide)
  have e5 : r.red = 0 := okN_zero (okNs_at h2 (show 5 < 8 by omega)) (by decide)
  have e6 : r.size = 0 := okN_zero (okNs_at h2 (show 6 < 8 by omega)) (by decide)
  have e7 : r.how = 0 := okN_zero (okNs_at h2 (show 7 < 8 by omega)) (by decide)
  have e8 : r.spans = [] := h5 (by decide)
  have e9 : r.data = [] := h6 (by decide)
  clear h h1 h2 h3 h4 h5 h6
  cases r
  simp only at *
  subst hk e2 e3 e4 e5 e6 e7 e8 e9
  rfl
theorem fold6 {r : Rc} (h : mayB6 r = true) (hk : r.kind = 6) : (fsB r.kind).foldl (cpL r) (mkR r.kind []) = r := by
  obtain ⟨h1, h2, h3, h4⟩ := may_parts h
  obtain ⟨h5, h6⟩ := may_lists h
  rw [hk] at h2 h5 h6
  have e2 : r.peer = 0 := okN_zero (okNs_at h2 (show 2 < 8 by omega)) (by decide)
  have e7 : r.how = 0 := okN_zero (okNs_at h2 (show 7 < 8 by omega)) (by decide)
  have e8 : r.spans = [] := h5 (by decide)
  clear h h1 h2 h3 h4 h5 h6
  cases r
  simp only at *
  subst hk e2 e7 e8
  rfl
theorem fold7 {r : Rc} (h : mayB6 r = true) (hk : r.kind = 7) : (fsB r.kind).foldl (cpL r) (mkR r.kind []) = r := by
  obtain ⟨h1, h2, h3, h4⟩ := may_parts h
  obtain ⟨h5, h6⟩ := may_lists h
  rw [hk] at h2 h5 h6
  have e2 : r.peer = 0 := okN_zero (okNs_at h2 (show 2 < 8 by omega)) (by decide)
  have e3 : r.srv = 0 := okN_zero (okNs_at h2 (show 3 < 8 by omega)) (by decide)
  have e4 : r.off = 0 := okN_zero (okNs_at h2 (show 4 < 8 by omega)) (by decide)
  have e5 : r.red = 0 := okN_zero (okNs_at h2 (show 5 < 8 by omega)) (by decide)
  have e6 : r.size = 0 := okN_zero (okNs_at h2 (show 6 < 8 by omega)) (by decide)
  have e7 : r.how = 0 := okN_zero (okNs_at h2 (show 7 < 8 by omega)) (by decide)
  have e8 : r.spans = [] := h5 (by decide)
  have e9 : r.data = [] := h6 (by decide)
  clear h h1 h2 h3 h4 h5 h6
  cases r
  simp only at *
  subst hk e2 e3 e4 e5 e6 e7 e8 e9
  rfl
theorem fold8 {r : Rc} (h : mayB6 r = true) (hk : r.kind = 8) : (fsB r.kind).foldl (cpL r) (mkR r.kind []) = r := by
  obtain ⟨h1, h2, h3, h4⟩ := may_parts h
  obtain ⟨h5, h6⟩ := may_lists h
  rw [hk] at h2 h5 h6
  have e2 : r.peer = 0 := okN_zero (okNs_at h2 (show 2 < 8 by omega)) (by decide)
  have e3 : r.srv = 0 := okN_zero (okNs_at h2 (show 3 < 8 by omega)) (by decide)
  have e4 : r.off = 0 := okN_zero (okNs_at h2 (show 4 < 8 by omega)) (by decide)
  have e5 : r.red = 0 := okN_zero (okNs_at h2 (show 5 < 8 by omega)) (by decide)
  have e6 : r.size = 0 := okN_zero (okNs_at h2 (show 6 < 8 by omega)) (by decide)
  have e8 : r.spans = [] := h5 (by decide)
  have e9 : r.data = [] := h6 (by decide)
  clear h h1 h2 h3 h4 h5 h6
  cases r
  simp only at *
  subst hk e2 e3 e4 e5 e6 e8 e9
  rfl
theorem fold9 {r : Rc} (h : mayB6 r = true) (hk : r.kind = 9) : (fsB r.kind).foldl (cpL r) (mkR r.kind []) = r := by
  obtain ⟨h1, h2, h3, h4⟩ := may_parts h
  obtain ⟨h5, h6⟩ := may_lists h
  rw [hk] at h2 h5 h6
  have e2 : r.peer = 0 := okN_zero (okNs_at h2 (show 2 < 8 by omega)) (by decide)
  have e3 : r.srv = 0 := okN_zero (okNs_at h2 (show 3 < 8 by omega)) (by decide)
  have e4 : r.off = 0 := okN_zero (okNs_at h2 (show 4 < 8 by omega)) (by decide)
  have e5 : r.red = 0 := okN_zero (okNs_at h2 (show 5 < 8 by omega)) (by decide)
  have e6 : r.size = 0 := okN_zero (okNs_at h2 (show 6 < 8 by omega)) (by decide)
  have e7 : r.how = 0 := okN_zero (okNs_at h2 (show 7 < 8 by omega)) (by decide)
  have e8 : r.spans = [] := h5 (by decide)
  have e9 : r.data = [] := h6 (by decide)
  clear h h1 h2 h3 h4 h5 h6
  cases r
  simp only at *
  subst hk e2 e3 e4 e5 e6 e7 e8 e9
  rfl
theorem fold10 {r : Rc} (h : mayB6 r = true) (hk : r.kind = 10) : (fsB r.kind).foldl (cpL r) (mkR r.kind []) = r := by
  obtain ⟨h1, h2, h3, h4⟩ := may_parts h
  obtain ⟨h5, h6⟩ := may_lists h
  rw [hk] at h2 h5 h6
  have e2 : r.peer = 0 := okN_zero (okNs_at h2 (show 2 < 8 by omega)) (by decide)
  have e3 : r.srv = 0 := okN_zero (okNs_at h2 (show 3 < 8 by omega)) (by decide)
  have e4 : r.off = 0 := okN_zero (okNs_at h2 (show 4 < 8 by omega)) (by decide)
  have e5 : r.red = 0 := okN_zero (okNs_at h2 (show 5 < 8 by omega)) (by decide)
  have e6 : r.size = 0 := okN_zero (okNs_at h2 (show 6 < 8 by omega)) (by decide)
  have e7 : r.how = 0 := okN_zero (okNs_at h2 (show 7 < 8 by omega)) (by decide)
  have e8 : r.spans = [] := h5 (by decide)
  have e9 : r.data = [] := h6 (by decide)
  clear h h1 h2 h3 h4 h5 h6
  cases r
  simp only at *
  subst hk e2 e3 e4 e5 e6 e7 e8 e9
  rfl
theorem fold11 {r : Rc} (h : mayB6 r = true) (hk : r.kind = 11) : (fsB r.kind).foldl (cpL r) (mkR r.kind []) = r := by
  obtain ⟨h1, h2, h3, h4⟩ := may_parts h
  obtain ⟨h5, h6⟩ := may_lists h
  rw [hk] at h2 h5 h6
  have e0 : r.org = 0 := okN_zero (okNs_at h2 (show 0 < 8 by omega)) (by decide)
  have e1 : r.num = 0 := okN_zero (okNs_at h2 (show 1 < 8 by omega)) (by decide)
  have e2 : r.peer = 0 := okN_zero (okNs_at h2 (show 2 < 8 by omega)) (by decide)
  have e3 : r.srv = 0 := okN_zero (okNs_at h2 (show 3 < 8 by omega)) (by decide)
  have e4 : r.off = 0 := okN_zero (okNs_at h2 (show 4 < 8 by omega)) (by decide)
  have e5 : r.red = 0 := okN_zero (okNs_at h2 (show 5 < 8 by omega)) (by decide)
  have e7 : r.how = 0 := okN_zero (okNs_at h2 (show 7 < 8 by omega)) (by decide)
  have e9 : r.data = [] := h6 (by decide)
  clear h h1 h2 h3 h4 h5 h6
  cases r
  simp only at *
  subst hk e0 e1 e2 e3 e4 e5 e7 e9
  rfl
theorem fold12 {r : Rc} (h : mayB6 r = true) (hk : r.kind = 12) : (fsB r.kind).foldl (cpL r) (mkR r.kind []) = r := by
  obtain ⟨h1, h2, h3, h4⟩ := may_parts h
  obtain ⟨h5, h6⟩ := may_lists h
  rw [hk] at h2 h5 h6
  have e2 : r.peer = 0 := okN_zero (okNs_at h2 (show 2 < 8 by omega)) (by decide)
  have e4 : r.off = 0 := okN_zero (okNs_at h2 (show 4 < 8 by omega)) (by decide)
  have e7 : r.how = 0 := okN_zero (okNs_at h2 (show 7 < 8 by omega)) (by decide)
  have e8 : r.spans = [] := h5 (by decide)
  have e9 : r.data = [] := h6 (by decide)
  clear h h1 h2 h3 h4 h5 h6
  cases r
  simp only at *
  subst hk e2 e4 e7 e8 e9
  rfl
theorem fold_all {r : Rc} (h : mayB6 r = true) : (fsB r.kind).foldl (cpL r) (mkR r.kind []) = r := by
  rcases kf_cases (may_parts h).1 with hk | hk | hk | hk | hk | hk | hk | hk | hk | hk | hk | hk
  · exact fold1 h hk
  · exact fold2 h hk
  · exact fold3 h hk
  · exact fold4 h hk
  · exact fold5 h hk
  · exact fold6 h hk
  · exact fold7 h hk
  · exact fold8 h hk
  · exact fold9 h hk
  · exact fold10 h hk
  · exact fold11 h hk
  · exact fold12 h hk
theorem fs_nodup (k : Int) : (fsB k).Nodup := by
  by_cases h : kf k = 0
  · rw [no_letters h]; exact List.nodup_nil
  · rcases kf_cases h with rfl | rfl | rfl | rfl | rfl | rfl | rfl | rfl | rfl | rfl | rfl | rfl <;> decide
theorem fs_isL (k : Int) : ∀ c ∈ fsB k, isL c := fun c hc => by
  by_cases h : kf k = 0
  · rw [no_letters h] at hc; cases hc
  · rcases let_cases h hc with ⟨e, _⟩ | ⟨e, _⟩ | e
    · exact .inl e
    · exact .inr (.inl e)
    · exact .inr (.inr e)
/-- What the reference answers of what it has read. -/
def r2R (s : Rc × Option (List Int)) : Rc × Int := match s.2 with
  | some [] => if mayB6 s.1 then (s.1, 0) else (rz0, 61)
  | _ => (rz0, 61)
theorem r2_eq {k : Int} {t0 : List Int} (hb : Bytey (k :: t0)) (hl : (k :: t0).length ≤ 131072) : r2R (runL (mkR k [], some t0) (fsB k)) = rdR (k :: t0) := by
  have hb0 : Bytey t0 := fun z hz => hb z (List.mem_cons_of_mem _ hz)
  unfold rdR
  rw [if_neg (by omega)]
  cases hq : readP (k :: t0) with
  | some r =>
    obtain ⟨hz, hm⟩ := read_inv hb hq
    rw [pr_letters r (may_parts hm).1] at hz
    simp only [List.cons.injEq] at hz
    obtain ⟨rfl, hz⟩ := hz
    have h1 := run_fwd hm [] (fsB r.kind) (mkR r.kind []) (fun c hc => hc)
    rw [List.append_nil, ← hz, fold_all hm] at h1
    rw [h1]
    unfold r2R
    simp only [hm, if_true]
  | none =>
    unfold r2R
    split
    · rename_i h1
      split
      · rename_i hm
        exfalso
        obtain ⟨t, e1, e2, e3, _⟩ := run_inv (fsB k) (mkR k [], some t0) (fs_isL k) (fs_nodup k) (fun t h => by cases h; exact hb0) h1
        simp only [Option.some.injEq] at e1
        subst e1
        have hk : (runL (mkR k [], some t0) (fsB k)).1.kind = k := e3
        have h2 := pr_letters (runL (mkR k [], some t0) (fsB k)).1 (may_parts hm).1
        rw [hk, ← List.append_nil ((fsB k).flatMap _), ← e2] at h2
        have h3 := read_back hm
        rw [h2, hq] at h3
        cases h3
      · rfl
    · rfl
end Go.Proofs.YtllhbhogfffedaaGreatDoor

namespace Go.Proofs.YtllhbhogfffedaaGreatDoor
open Go.RowKit
set_option linter.unusedVariables false
set_option linter.unusedSimpArgs false

theorem byt2_len {q : Option (List Int)} {n : Nat} (hb : ∀ t, q = some t → Bytey t) (h : ∀ t, q = some t → t.length ≤ n) : (byt2P q).1.length ≤ n := by
  obtain ⟨_, _, b3⟩ := num2_bd hb
  rw [byt2_eq]
  cases hq : (num2P q).2 with
  | none => simp
  | some t1 =>
    obtain ⟨_, t, e1, e2⟩ := b3 t1 hq
    have := h t e1
    simp only
    split
    · simp only [List.length_take]; omega
    · simp

/-- What the reference has read so far. -/
structure Rd2 (wr w : World) (B bx rb g off n c : Nat) (zs : List Int) (s : Rc × Option (List Int)) : Prop where
  ex : ∃ sa da sc dc, wr.heap[bx]? = some (rcO s.1 (.slice sa s.1.spans.length sc) (.slice da s.1.data.length dc)) ∧ C.SOwn wr B (.slice sa s.1.spans.length sc) s.1.spans ∧ wr.ownsRow B 5 1 (.slice da s.1.data.length dc) s.1.data.length (s.1.data.map (Value.int .u8)) ∧ ∀ j, (Value.slice sa s.1.spans.length sc).ownBlock = some j → (Value.slice da s.1.data.length dc).ownBlock ≠ some j
  rd : R2 wr rb g off n c zs s.2
  be : Below w.heap.size w wr
  zh : wr.heap[w.heap.size]? = some (rcO rz0 (.slice none 0 0) (.slice none 0 0))
  dl : s.1.data.length ≤ n
  sz : B ≤ wr.heap.size
end Go.Proofs.YtllhbhogfffedaaGreatDoor
