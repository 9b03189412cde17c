import Derived.Test.YtnclfoljfnfglaiTmF5
namespace Go.Proofs.Ytnclfoljfnfglai
open Go.RowKit Go.Maps
set_option linter.unusedVariables false

/-! ## What the reference's Start makes of its list -/
def insT : Tl → Kx → Int → Tl
  | [], k, n => [(k, n)]
  | x :: R, k, n => if ltK k x.1 = true then (k, n) :: x :: R else x :: insT R k n
def insS (k : Kx) (n : Int) (s : Tl × Bool) (x : Kx × Int) : Tl × Bool := if ltK k x.1 = true ∧ s.2 = false then ((s.1 ++ [(k, n)]) ++ [x], true) else (s.1 ++ [x], s.2)
def insF (k : Kx) (n : Int) (s : Tl × Bool) : Tl := if s.2 = true then s.1 else s.1 ++ [(k, n)]
theorem insS_true (k : Kx) (n : Int) : ∀ (R a : Tl), R.foldl (insS k n) (a, true) = (a ++ R, true)
  | [], a => by simp
  | x :: R, a => by
    have e : insS k n (a, true) x = (a ++ [x], true) := by simp [insS]
    rw [List.foldl_cons, e, insS_true k n R]
    simp
theorem insS_fold (k : Kx) (n : Int) : ∀ (R a : Tl), insF k n (R.foldl (insS k n) (a, false)) = a ++ insT R k n
  | [], a => by simp [insF, insT]
  | x :: R, a => by
    by_cases h : ltK k x.1 = true
    · have e : insS k n (a, false) x = ((a ++ [(k, n)]) ++ [x], true) := by simp [insS, h]
      rw [List.foldl_cons, e, insS_true]
      simp [insF, insT, h]
    · have e : insS k n (a, false) x = (a ++ [x], false) := by simp [insS, h]
      rw [List.foldl_cons, e, insS_fold k n R]
      simp [insT, h]
theorem insS_len (k : Kx) (n : Int) : ∀ (R : Tl) (s : Tl × Bool), (R.foldl (insS k n) s).1.length + (if s.2 = true then 1 else 0) = s.1.length + R.length + (if (R.foldl (insS k n) s).2 = true then 1 else 0)
  | [], s => rfl
  | x :: R, s => by
    rw [List.foldl_cons]
    have := insS_len k n R (insS k n s x)
    obtain ⟨a, b⟩ := s
    unfold insS at this ⊢
    cases b <;> by_cases h : ltK k x.1 = true <;> simp [h] at this ⊢ <;> omega
theorem insS_le (k : Kx) (n : Int) (R : Tl) (j : Nat) : ((R.take j).foldl (insS k n) ([], false)).1.length ≤ j + 1 := by
  have := insS_len k n (R.take j) ([], false)
  have h2 : (R.take j).length ≤ j := by rw [List.length_take]; exact Nat.min_le_left _ _
  simp at this
  split at this <;> omega
theorem insT_perm (k : Kx) (n : Int) : ∀ R : Tl, (insT R k n).Perm ((k, n) :: R)
  | [] => List.Perm.refl _
  | x :: R => by
    unfold insT
    split
    · exact List.Perm.refl _
    · exact ((insT_perm k n R).cons x).trans (List.Perm.swap _ _ _)
/-- The keys rise. -/
def RiS (R : Tl) : Prop := (R.map Prod.fst).Pairwise fun x y => ltK x y = true
theorem RiS.nd {R : Tl} (h : RiS R) : (R.map Prod.fst).Nodup := by
  unfold RiS at h
  refine h.imp fun {x y} h1 e => ?_
  subst e
  have := swoK.irrefl x
  rw [h1] at this; cases this
theorem lt_of_not {x y : Kx} (h : ¬ ltK x y = true) (hn : x ≠ y) : ltK y x = true := by
  cases e : ltK y x
  · exact absurd (levelK x y (by simpa using h) e) hn
  · rfl
theorem RiS.ins {k : Kx} {n : Int} : ∀ {R : Tl}, RiS R → k ∉ R.map Prod.fst → RiS (insT R k n)
  | [], _, _ => by simp [RiS, insT]
  | x :: R, h, hk => by
    have h' : (∀ y ∈ R.map Prod.fst, ltK x.1 y = true) ∧ RiS R := by
      unfold RiS at h; rw [List.map_cons, List.pairwise_cons] at h; exact h
    have hk1 : k ≠ x.1 := fun e => hk (by rw [e]; simp)
    have hk2 : k ∉ R.map Prod.fst := fun e => hk (by rw [List.map_cons]; exact List.mem_cons_of_mem _ e)
    unfold insT
    split
    · rename_i hl
      show (((k, n) :: x :: R).map Prod.fst).Pairwise _
      rw [List.map_cons, List.pairwise_cons]
      refine ⟨fun y hy => ?_, h⟩
      rw [List.map_cons] at hy
      rcases List.mem_cons.mp hy with rfl | hy
      · exact hl
      · exact swoK.trans _ _ _ hl (h'.1 y hy)
    · rename_i hl
      show ((x :: insT R k n).map Prod.fst).Pairwise _
      rw [List.map_cons, List.pairwise_cons]
      refine ⟨fun y hy => ?_, RiS.ins h'.2 hk2⟩
      have hy2 := ((insT_perm k n R).map Prod.fst).mem_iff.mp hy
      rcases List.mem_cons.mp hy2 with e | hy2
      · have e' : y = k := e
        rw [e']; exact lt_of_not hl hk1
      · exact h'.1 y hy2
theorem RiS.sub {R R' : Tl} (h : RiS R) (hs : (R'.map Prod.fst).Sublist (R.map Prod.fst)) : RiS R' := List.Pairwise.sublist hs h
def stR (R : Tl) (k : Kx) (n : Int) : Tl := if k ∈ R.map Prod.fst then upR R k n else insT R k n
theorem upR_setR {R : Tl} {k : Kx} {n c : Int} {i : Nat} (hnd : (R.map Prod.fst).Nodup) (hi : R[i]? = some (k, c)) : upR R k n = R.set i (k, n) := by
  have hm : k ∈ R.map Prod.fst := List.mem_map.mpr ⟨_, List.mem_of_getElem? hi, rfl⟩
  unfold upR
  rw [if_pos hm]
  apply List.ext_getElem?
  intro j
  rw [List.getElem?_map, List.getElem?_set]
  have hil := (List.getElem?_eq_some_iff.mp hi).1
  by_cases e : i = j
  · subst e
    rw [hi]
    simp [hil]
  · rw [if_neg e]
    cases hj : R[j]? with
    | none => rfl
    | some y =>
      have hy : y.1 ≠ k := fun e2 => by
        have h1 : (R.map Prod.fst)[j]? = some k := by rw [List.getElem?_map, hj, ← e2]; rfl
        have h2 : (R.map Prod.fst)[i]? = some k := by rw [List.getElem?_map, hi]; rfl
        have := (List.getElem?_inj (List.getElem?_eq_some_iff.mp h2).1 hnd).mp (h2.trans h1.symm)
        exact e this
      simp [hy]
/-! ## The program's table against the reference's -/
structure Rel (L R : Tl) (Hs Hr : List Int) (b : Nat) : Prop where
  perm : R.Perm L
  rise : RiS R
  ok : ∀ x ∈ R, mayK x.1 ∧ 1 ≤ x.2 ∧ x.2 ≤ 1048576
  held : ∀ x, x ∈ Hr ↔ x ∈ Hs
  ln : R.length ≤ b
  lh : Hr.length ≤ b
  ls : Hs.length ≤ b
theorem Rel.nil : Rel [] [] [] [] 0 := ⟨List.Perm.refl _, by simp [RiS], by simp, by simp, by simp, by simp, by simp⟩
theorem Rel.mono {L R : Tl} {Hs Hr : List Int} {b b' : Nat} (h : Rel L R Hs Hr b) (hb : b ≤ b') : Rel L R Hs Hr b' := ⟨h.perm, h.rise, h.ok, h.held, Nat.le_trans h.ln hb, Nat.le_trans h.lh hb, Nat.le_trans h.ls hb⟩
theorem Rel.ndL {L R : Tl} {Hs Hr : List Int} {b : Nat} (h : Rel L R Hs Hr b) : (L.map Prod.fst).Nodup := (h.perm.map _).nodup_iff.mp h.rise.nd
theorem Rel.lnL {L R : Tl} {Hs Hr : List Int} {b : Nat} (h : Rel L R Hs Hr b) : L.length ≤ b := by rw [← h.perm.length_eq]; exact h.ln
theorem Rel.key {L R : Tl} {Hs Hr : List Int} {b : Nat} (h : Rel L R Hs Hr b) (k : Kx) : decide (k ∈ L.map Prod.fst) = decide (k ∈ R.map Prod.fst) := decide_eq_decide.mpr (h.perm.map _).mem_iff.symm
theorem Rel.lft {L R : Tl} {Hs Hr : List Int} {b : Nat} (h : Rel L R Hs Hr b) (k : Kx) : lftT L k = lftT R k := by
  by_cases e : k ∈ R.map Prod.fst
  · obtain ⟨⟨k', c⟩, hx, e2⟩ := List.mem_map.mp e
    have e3 : k' = k := e2
    subst e3
    rw [lft_in h.rise.nd hx, lft_in h.ndL (h.perm.mem_iff.mp hx)]
  · rw [lft_out e, lft_out (fun e2 => e ((h.perm.map _).mem_iff.mpr e2))]
theorem Rel.start {L R : Tl} {Hs Hr : List Int} {b : Nat} {k : Kx} {n : Int} (h : Rel L R Hs Hr b) (hk : mayK k) (hn : 1 ≤ n ∧ n ≤ 1048576) : Rel (putT L k n) (stR R k n) Hs Hr (b + 1) := by
  have hp := upR_perm (k := k) (n := n) h.perm.symm h.ndL
  unfold stR
  by_cases e : k ∈ R.map Prod.fst
  · rw [if_pos e]
    refine ⟨hp.symm, ?_, ?_, h.held, ?_, Nat.le_succ_of_le h.lh, Nat.le_succ_of_le h.ls⟩
    · show ((upR R k n).map Prod.fst).Pairwise _
      rw [upR_keys_in e]; exact h.rise
    · rintro ⟨x, c⟩ hx
      rcases upR_mem.mp hx with ⟨rfl, rfl⟩ | ⟨h1, _⟩
      · exact ⟨hk, hn⟩
      · exact h.ok _ h1
    · have := congrArg List.length (upR_keys_in (n := n) e)
      simp only [List.length_map] at this
      have := h.ln
      omega
  · rw [if_neg e]
    have h1 : (upR R k n).Perm (insT R k n) := by
      unfold upR
      rw [if_neg e]
      exact (List.perm_append_comm (l₁ := R) (l₂ := [(k, n)])).trans (insT_perm k n R).symm
    refine ⟨(hp.trans h1).symm, h.rise.ins e, ?_, h.held, ?_, Nat.le_succ_of_le h.lh, Nat.le_succ_of_le h.ls⟩
    · intro x hx
      rcases List.mem_cons.mp ((insT_perm k n R).mem_iff.mp hx) with rfl | hx
      · exact ⟨hk, hn⟩
      · exact h.ok x hx
    · rw [(insT_perm k n R).length_eq, List.length_cons]
      have := h.ln
      omega
theorem Rel.stop {L R : Tl} {Hs Hr : List Int} {b : Nat} (h : Rel L R Hs Hr b) (k : Kx) : Rel (delT L k) (delT R k) Hs Hr b :=
  ⟨h.perm.filter _, h.rise.sub (List.Sublist.map _ List.filter_sublist), fun x hx => h.ok x (mem_delT.mp hx).1, h.held, Nat.le_trans (List.length_filter_le _ _) h.ln, h.lh, h.ls⟩
theorem Rel.drop {L R : Tl} {Hs Hr : List Int} {b : Nat} (h : Rel L R Hs Hr b) (s1 s2 : Int) : Rel (notS s1 s2 L) (notS s1 s2 R) Hs Hr b :=
  ⟨h.perm.filter _, h.rise.sub (List.Sublist.map _ List.filter_sublist), fun x hx => h.ok x (List.mem_filter.mp hx).1, h.held, Nat.le_trans (List.length_filter_le _ _) h.ln, h.lh, h.ls⟩
theorem Rel.hold {L R : Tl} {Hs Hr : List Int} {b : Nat} (h : Rel L R Hs Hr b) (p : Int) : Rel L R (addH Hs p) (if p ∈ Hr then Hr else Hr ++ [p]) (b + 1) := by
  refine ⟨h.perm, h.rise, h.ok, fun x => ?_, Nat.le_succ_of_le h.ln, ?_, ?_⟩
  · rw [mem_addH]
    have := h.held x
    have h2 := h.held p
    by_cases e : p ∈ Hr
    · rw [if_pos e]
      constructor
      · exact fun q => .inr (this.mp q)
      · rintro (rfl | q)
        · exact e
        · exact this.mpr q
    · rw [if_neg e, List.mem_append, List.mem_singleton, this]
      exact ⟨fun q => q.symm, fun q => q.symm⟩
  · have := h.lh
    split <;> simp <;> omega
  · have := h.ls
    unfold addH
    split <;> simp <;> omega
theorem Rel.go {L R : Tl} {Hs Hr : List Int} {b : Nat} (h : Rel L R Hs Hr b) (hn : Hs.Nodup) (p : Int) : Rel L R (delH Hs p) (outH Hr p) b := by
  refine ⟨h.perm, h.rise, h.ok, fun x => ?_, h.ln, Nat.le_trans (List.length_filter_le _ _) h.lh, Nat.le_trans List.length_erase_le h.ls⟩
  rw [mem_delH hn, outH, List.mem_filter, h.held x, decide_eq_true_iff]
  exact ⟨fun q => ⟨q.2, q.1⟩, fun q => ⟨q.2, q.1⟩⟩
theorem outS_set {R : Tl} {Hs Hr : List Int} (h : ∀ x, x ∈ Hr ↔ x ∈ Hs) : outS R Hr = outS R Hs := by
  unfold outS
  congr 1
  refine List.filter_congr fun x _ => decide_eq_decide.mpr ?_
  rw [h x.1.1]
theorem tickT_set {R : Tl} {Hs Hr : List Int} (h : ∀ x, x ∈ Hr ↔ x ∈ Hs) : tickT R Hr = tickT R Hs := by
  unfold tickT
  have e : (R.filter fun x => decide (x.1.1 ∈ Hr ∨ x.2 ≠ 1)) = R.filter fun x => decide (x.1.1 ∈ Hs ∨ x.2 ≠ 1) := List.filter_congr fun x _ => decide_eq_decide.mpr (by rw [h x.1.1])
  rw [e]
  refine List.map_congr_left fun x _ => ?_
  by_cases q : x.1.1 ∈ Hs
  · rw [if_pos q, if_pos ((h _).mpr q)]
  · rw [if_neg q, if_neg (fun q2 => q ((h _).mp q2))]
theorem Rel.out {L R : Tl} {Hs Hr : List Int} {b : Nat} (h : Rel L R Hs Hr b) : outS R Hr = srtK (outS L Hs) := by
  rw [outS_set h.held]
  have h1 : (outS R Hs).Perm (outS L Hs) := (h.perm.filter _).map _
  have h2 : (outS R Hs).Pairwise fun x y => ltK x y = true := List.Pairwise.sublist (List.Sublist.map _ List.filter_sublist) h.rise
  refine perm_sorted ltK levelK _ _ (h1.trans (srtK_perm _).symm) (h2.imp fun {x y} hxy => ?_) (srtK_sorted _)
  cases e : ltK y x
  · rfl
  · have := swoK.trans _ _ _ hxy e
    rw [swoK.irrefl] at this; cases this
theorem tick_keys (R : Tl) (Hs : List Int) : (tickT R Hs).map Prod.fst = (R.filter fun x => decide (x.1.1 ∈ Hs ∨ x.2 ≠ 1)).map Prod.fst := by
  unfold tickT
  rw [List.map_map]
  refine List.map_congr_left fun x _ => ?_
  simp only [Function.comp]
  split <;> rfl
theorem Rel.tick {L R : Tl} {Hs Hr : List Int} {b : Nat} (h : Rel L R Hs Hr b) : Rel (tickT L Hs) (tickT R Hr) Hs Hr b := by
  rw [tickT_set h.held]
  refine ⟨(h.perm.filter _).map _, ?_, ?_, h.held, Nat.le_trans (tickT_len _ _) h.ln, h.lh, h.ls⟩
  · refine h.rise.sub ?_
    rw [tick_keys]
    exact List.Sublist.map _ List.filter_sublist
  · rintro ⟨k, c⟩ hx
    rcases tickT_mem.mp hx with ⟨_, h1⟩ | ⟨_, h1, h2⟩
    · exact h.ok _ h1
    · have := h.ok _ h1
      simp only at this
      exact ⟨this.1, by simp only; omega, by simp only; omega⟩
theorem Rel.kw {L R : Tl} {Hs Hr : List Int} {b : Nat} (h : Rel L R Hs Hr b) : ∀ x ∈ R, kW x.1 := fun x hx => (h.ok x hx).1.kW
theorem Rel.outw {L R : Tl} {Hs Hr : List Int} {b : Nat} (h : Rel L R Hs Hr b) : ∀ x ∈ outS R Hr, kW x := fun x hx => h.kw _ (outS_mem.mp hx).1
theorem outS_len (R : Tl) (Hs : List Int) : (outS R Hs).length ≤ R.length := by unfold outS; rw [List.length_map]; exact List.length_filter_le _ _
theorem Rel.many {L R : Tl} {Hs Hr : List Int} {b : Nat} (h : Rel L R Hs Hr b) (s1 s2 : Int) : ((L.length : Int) - ((notS s1 s2 L).length : Int)) = (R.length : Int) - ((notS s1 s2 R).length : Int) := by
  have h1 : (notS s1 s2 R).Perm (notS s1 s2 L) := h.perm.filter _
  rw [h.perm.length_eq, h1.length_eq]

end Go.Proofs.Ytnclfoljfnfglai
