import Derived.Test.YtdfdaambfihjaaaDoorLnAk
import Derived.Test.YtdfdaambfihjaaaDoorLnIo
namespace Go.Proofs.YtdfdaambfihjaaaDoor.L
open Go.RowKit
set_option linter.unusedVariables false
set_option linter.unusedSimpArgs false

/-! ## The law's world: two lines, and the row of what was put -/
def Nm (ma mb : Nat) (oa ob : Lo) (iv : Value) (g : Nat) : Prop := Fo ma oa g ∨ Fo mb ob g ∨ iv.ownBlock = some g
structure Od (w0 wr : World) (pa ma pb mb : Nat) (oa ob : Lo) (M : Nat) (iv : Value) (I : List Sv) (A B : Nat → List Sg) : Prop where
  la : Lw wr pa ma 1073741824 3 oa M
  lb : Lw wr pb mb 1073741824 3 ob M
  bw : Below w0.heap.size w0 wr
  nn : ∀ g, Nm ma mb oa ob iv g → w0.heap.size ≤ g
  dab : ∀ g, Fo ma oa g → ¬ Fo mb ob g
  dpa : ¬ Fo mb ob pa
  dpb : ¬ Fo ma oa pb
  di : ∀ g, iv.ownBlock = some g → ¬ Fo ma oa g ∧ ¬ Fo mb ob g ∧ g ≠ pa ∧ g ≠ pb
  row : wr.ownsRow 0 37 14 iv I.length (seg I)
  qa : ∀ k, k < 3 → (Wt oa k).map Sv.s = A k
  qb : ∀ k, k < 3 → (Wt ob k).map Sv.s = B k
  sa : ∀ k y, k < 3 → y ∈ Wt oa k → Sta (Nm ma mb oa ob iv) wr y
  sb : ∀ k y, k < 3 → y ∈ Wt ob k → Sta (Nm ma mb oa ob iv) wr y
  it : ∀ y ∈ I, SAt w0 y ∧ 0 ≤ y.s.typ
theorem Od.swap {w0 wr : World} {pa ma pb mb : Nat} {oa ob : Lo} {M : Nat} {iv : Value} {I : List Sv} {A B : Nat → List Sg} (h : Od w0 wr pa ma pb mb oa ob M iv I A B) : Od w0 wr pb mb pa ma ob oa M iv I B A := by
  have hN : ∀ g, Nm mb ma ob oa iv g → Nm ma mb oa ob iv g := fun g hg => by
    rcases hg with e | e | e
    · exact .inr (.inl e)
    · exact .inl e
    · exact .inr (.inr e)
  exact ⟨h.lb, h.la, h.bw, fun g hg => h.nn g (hN g hg), fun g h1 h2 => h.dab g h2 h1, h.dpb, h.dpa, fun g hg => ⟨(h.di g hg).2.1, (h.di g hg).1, (h.di g hg).2.2.2, (h.di g hg).2.2.1⟩, h.row, h.qb, h.qa, fun k y hk hy => (h.sb k y hk hy).step (Kl.refl (fun _ => False) _) (fun _ _ e => e.elim) (fun g _ e => hN g e), fun k y hk hy => (h.sa k y hk hy).step (Kl.refl (fun _ => False) _) (fun _ _ e => e.elim) (fun g _ e => hN g e), h.it⟩
/-- A call on the first of the two. -/
theorem Od.a {w0 wr wr' : World} {pa ma pb mb : Nat} {oa ob oa' : Lo} {M M' : Nat} {iv : Value} {I : List Sv} {A B A' : Nat → List Sg} (h : Od w0 wr pa ma pb mb oa ob M iv I A B) (hM : M ≤ M') (l' : Lw wr' pa ma 1073741824 3 oa' M') (f' : ∀ g, Fo ma oa' g → Fo ma oa g ∨ wr.heap.size ≤ g) (k' : Kl (Fo ma oa) wr wr') (q' : ∀ k, k < 3 → (Wt oa' k).map Sv.s = A' k)
    (s' : ∀ k y, k < 3 → y ∈ Wt oa' k → (∃ j, j < 3 ∧ y ∈ Wt oa j) ∨ ∀ N : Nat → Prop, (∀ g, N g → Fo ma oa' g ∨ g < wr.heap.size) → Sta N wr' y) : Od w0 wr' pa ma pb mb oa' ob M' iv I A' B := by
  have hlb := h.lb.keep k' (fun g hg e => h.dab g e hg) h.dpb
  have hb' : Below w0.heap.size w0 wr' := by
    have k := (Kl.of_below (S := Fo ma oa) h.bw).then k' (fun _ _ e => e)
    exact ⟨k.os, k.tape, k.output, k.size, fun g hg => k.block g hg (fun e => by have := h.nn g (.inl e); omega)⟩
  have hlt : ∀ g, Fo mb ob g → g < wr.heap.size := fun g hg => h.lb.lt hg
  have hil : ∀ g, iv.ownBlock = some g → g < wr.heap.size := fun g hg => (h.row.lt g hg).2
  have hN : ∀ g, Nm ma mb oa' ob iv g → Nm ma mb oa ob iv g ∨ wr.heap.size ≤ g := fun g hg => by
    rcases hg with e | e | e
    · rcases f' g e with e | e
      · exact .inl (.inl e)
      · exact .inr e
    · exact .inl (.inr (.inl e))
    · exact .inl (.inr (.inr e))
  have hold : ∀ y, Sta (Nm ma mb oa ob iv) wr y → Sta (Nm ma mb oa' ob iv) wr' y := fun y hy => hy.step k' (fun g _ e => .inl e) (fun g hg e => by
    rcases hN g e with e | e
    · exact e
    · omega)
  refine ⟨l', ?_, hb', fun g hg => ?_, fun g h1 h2 => ?_, h.dpa, fun e => ?_, fun g hg => ⟨fun e => ?_, (h.di g hg).2.1, (h.di g hg).2.2⟩, k'.own h.row (fun g hg => (h.di g hg).1), q', h.qb, fun k y hk hy => ?_, fun k y hk hy => hold y (h.sb k y hk hy), h.it⟩
  · have hm := hlb.mp
    refine ⟨hlb.box, hlb.nx, ?_⟩
    rcases ob with _ | ⟨x, q⟩
    · exact hm
    · exact ⟨hm.1, hm.2.mono hM⟩
  · rcases hN g hg with e | e
    · exact h.nn g e
    · exact Nat.le_trans h.bw.size e
  · rcases f' g h1 with e | e
    · exact h.dab g e h2
    · have := hlt g h2; omega
  · rcases f' pb e with e | e
    · exact h.dpb e
    · have := (Array.getElem?_eq_some_iff.1 h.lb.box).1; omega
  · rcases f' g e with e | e
    · exact (h.di g hg).1 e
    · have := hil g hg; omega
  · rcases s' k y hk hy with ⟨j, hj, hj2⟩ | hs
    · exact hold y (h.sa j y hj hj2)
    · exact hs _ (fun g hg => by
        rcases hg with e | e | e
        · exact .inl e
        · exact .inr (hlt g e)
        · exact .inr (hil g e))
theorem Od.below {w0 wr wr' : World} {pa ma pb mb : Nat} {oa ob : Lo} {M : Nat} {iv : Value} {I : List Sv} {A B : Nat → List Sg} (h : Od w0 wr pa ma pb mb oa ob M iv I A B) (hb : Below wr.heap.size wr wr') : Od w0 wr' pa ma pb mb oa ob M iv I A B :=
  h.a (Nat.le_refl _) (h.la.below hb) (fun g hg => .inl hg) (Kl.of_below hb) h.qa (fun k y hk hy => .inl ⟨k, hk, hy⟩)
/-- The row of what was put grows. -/
theorem Od.app {w0 wr wr' : World} {pa ma pb mb : Nat} {oa ob : Lo} {M : Nat} {iv iv' : Value} {I : List Sv} {A B : Nat → List Sg} {y : Sv} (h : Od w0 wr pa ma pb mb oa ob M iv I A B) (ho : wr'.ownsRow 0 37 14 iv' (I.length + 1) (seg I ++ y.L)) (hg : wr.grownBy wr' iv.ownBlock) (hat : ∀ g, iv'.ownBlock = some g → iv.ownBlock = some g ∨ wr.heap.size ≤ g) (hy : SAt w0 y ∧ 0 ≤ y.s.typ) : Od w0 wr' pa ma pb mb oa ob M iv' (I ++ [y]) A B := by
  have hk : Kl (fun g => iv.ownBlock = some g) wr wr' := (Kl.refl _ _).grown hg (fun k hk => .inl hk)
  have hN : ∀ g, Nm ma mb oa ob iv' g → Nm ma mb oa ob iv g ∨ wr.heap.size ≤ g := fun g hg => by
    rcases hg with e | e | e
    · exact .inl (.inl e)
    · exact .inl (.inr (.inl e))
    · rcases hat g e with e | e
      · exact .inl (.inr (.inr e))
      · exact .inr e
  have hold : ∀ y, Sta (Nm ma mb oa ob iv) wr y → Sta (Nm ma mb oa ob iv') wr' y := fun y hy => hy.step hk (fun g _ e => .inr (.inr e)) (fun g hg e => by
    rcases hN g e with e | e
    · exact e
    · omega)
  have h3 : seg [y] = y.L := by simp [seg]
  refine ⟨h.la.keep hk (fun g hg e => (h.di g e).1 hg) (fun e => (h.di pa e).2.2.1 rfl), h.lb.keep hk (fun g hg e => (h.di g e).2.1 hg) (fun e => (h.di pb e).2.2.2 rfl), ?_, fun g hg => ?_, h.dab, h.dpa, h.dpb, fun g hg => ?_, by rw [List.length_append, seg_app, h3]; exact ho, h.qa, h.qb, fun k y hk hy => hold y (h.sa k y hk hy), fun k y hk hy => hold y (h.sb k y hk hy), fun z hz => ?_⟩
  · have k := (Kl.of_below (S := fun g => iv.ownBlock = some g) h.bw).then hk (fun _ _ e => e)
    exact ⟨k.os, k.tape, k.output, k.size, fun g hg => k.block g hg (fun e => by have := h.nn g (.inr (.inr e)); omega)⟩
  · rcases hN g hg with e | e
    · exact h.nn g e
    · exact Nat.le_trans h.bw.size e
  · rcases hat g hg with e | e
    · exact h.di g e
    · refine ⟨fun e2 => ?_, fun e2 => ?_, fun e2 => ?_, fun e2 => ?_⟩
      · have := h.la.lt e2; omega
      · have := h.lb.lt e2; omega
      · have := (Array.getElem?_eq_some_iff.1 h.la.box).1; omega
      · have := (Array.getElem?_eq_some_iff.1 h.lb.box).1; omega
  · rcases List.mem_append.mp hz with hz | hz
    · exact h.it z hz
    · simp at hz
      subst hz
      exact hy

/-! ## What the lists say -/
/-- The kinds of what was put. -/
def Kd (I : List Sv) (k : Nat) : List Sg := (I.filter (fun y => decide (kdn y.s.typ = k))).map Sv.s
theorem Kd_snoc (I : List Sv) (y : Sv) (k : Nat) : Kd (I ++ [y]) k = Kd I k ++ (if k = kdn y.s.typ then [y.s] else []) := by
  unfold Kd
  rw [List.filter_append, List.map_append]
  by_cases e : kdn y.s.typ = k
  · subst e; simp
  · have e2 : ¬ k = kdn y.s.typ := fun h => e h.symm
    simp [e, e2]
theorem Kd_len (I : List Sv) : (Kd I 0).length + (Kd I 1).length + (Kd I 2).length = I.length := by
  induction I with
  | nil => rfl
  | cons y r ih =>
    have h3 := (kd_n y.s.typ).2
    unfold Kd at *
    simp only [List.length_map] at *
    rcases three h3 with e | e | e <;> simp [List.filter_cons, e] <;> omega
theorem kd_typ {t : Int} : (kdn t = 0 → t = 9 ∨ t = 13 ∨ t = 15) ∧ (kdn t = 1 → t = 8 ∨ t = 12 ∨ t = 14) := by
  unfold kdn kd
  refine ⟨fun h => ?_, fun h => ?_⟩
  · repeat' split at h
    all_goals (first | omega | simp at h)
  · repeat' split at h
    all_goals (first | omega | simp at h)
def dr1 (S1 S2 : Int) (all : Bool) (l : List Sg) : List Sg := l.filter fun s => !mnt S1 S2 all s
theorem kp_map (S1 S2 : Int) (all : Bool) (l : List Sv) : (kp S1 S2 all l).map Sv.s = dr1 S1 S2 all (l.map Sv.s) := by
  unfold kp dr1
  rw [List.filter_map]
  rfl
/-- What is left of the kinds, by the program and by the law. -/
def Al (I : List Sv) (S1 S2 : Int) (dr all : Bool) (k : Nat) : List Sg := if dr = true ∧ 0 < k then dr1 S1 S2 all (Kd I k) else Kd I k
theorem Al_ex {I : List Sv} (hI : ∀ y ∈ I, 0 ≤ y.s.typ) (S1 S2 : Int) (dr all : Bool) {k : Nat} (hk : k < 3) : Al I S1 S2 dr all k = Ex S1 S2 dr all I k := by
  unfold Al Ex
  cases dr with
  | false =>
    have e : I.filter (kk S1 S2 false all k) = I.filter (fun y => decide (kdn y.s.typ = k)) := List.filter_congr (fun y _ => by simp [kk, gon])
    rw [e]
    simp [Kd]
  | true =>
    by_cases h0 : 0 < k
    · simp only [h0, and_self, if_true]
      unfold dr1 Kd
      rw [List.filter_map, List.filter_filter]
      congr 1
      refine List.filter_congr (fun y hy => ?_)
      have ht := hI y hy
      by_cases e : kdn y.s.typ = k
      · have h1 := (kd_typ (t := y.s.typ)).2
        have e3 : k = 1 ∨ k = 2 := by omega
        rcases e3 with rfl | rfl
        · have e4 := h1 e
          have e5 : ¬ y.s.typ ≤ 3 := by omega
          simp [kk, gon, mnt, isR, e, e5]
        · simp [kk, gon, mnt, isR, e, ht, Bool.or_comm]
      · simp [kk, e]
    · obtain rfl : k = 0 := by omega
      simp only [Nat.lt_irrefl, and_false, if_false]
      unfold Kd
      congr 1
      refine List.filter_congr (fun y hy => ?_)
      by_cases e : kdn y.s.typ = 0
      · have e4 := (kd_typ (t := y.s.typ)).1 e
        have e5 : ¬ y.s.typ ≤ 3 := by omega
        simp [kk, gon, e, e5]
      · simp [kk, e]
theorem Al_all {I : List Sv} (hI : ∀ y ∈ I, 0 ≤ y.s.typ) (S1 S2 : Int) (dr all : Bool) : Al I S1 S2 dr all 0 ++ Al I S1 S2 dr all 1 ++ Al I S1 S2 dr all 2 = Ep S1 S2 dr all I 3 := by
  rw [Al_ex hI S1 S2 dr all (by omega), Al_ex hI S1 S2 dr all (by omega), Al_ex hI S1 S2 dr all (by omega)]
  simp [Ep]

end Go.Proofs.YtdfdaambfihjaaaDoor.L
