import Derived.Test.YtlagadpfnkidjacClmMath
namespace Go.Proofs.Ytlagadpfnkidjac

/-- The pieces from p up to hi: those that are of the list, and those that are not. -/
def pc (hi : Int) : Int → List Sp → List (Sp × Bool)
  | p, [] => if p < hi then [((p, hi), false)] else []
  | p, x :: r => if min x.2 hi ≤ max x.1 p then pc hi p r else (if p < max x.1 p then [((p, max x.1 p), false)] else []) ++ ((max x.1 p, min x.2 hi), true) :: pc hi (min x.2 hi) r

def pick (b : Bool) : List (Sp × Bool) → List Sp
  | [] => []
  | s :: r => if s.2 = b then s.1 :: pick b r else pick b r
theorem pick_append (b : Bool) (l m : List (Sp × Bool)) : pick b (l ++ m) = pick b l ++ pick b m := by
  induction l with
  | nil => rfl
  | cons s r ih => simp only [List.cons_append, pick, ih]; split <;> simp

theorem pc_skip {hi p : Int} {x : Sp} {r : List Sp} (h : min x.2 hi ≤ max x.1 p) : pc hi p (x :: r) = pc hi p r := by rw [pc, if_pos h]
theorem pc_gap {hi p : Int} {x : Sp} {r : List Sp} (h : ¬ min x.2 hi ≤ max x.1 p) (hp : p < x.1) : pc hi p (x :: r) = ((p, x.1), false) :: ((x.1, min x.2 hi), true) :: pc hi (min x.2 hi) r := by
  rw [pc, if_neg h, if_pos (by omega), show max x.1 p = x.1 from by omega]; rfl
theorem pc_on {hi p : Int} {x : Sp} {r : List Sp} (h : ¬ min x.2 hi ≤ max x.1 p) (hp : x.1 ≤ p) : pc hi p (x :: r) = ((p, min x.2 hi), true) :: pc hi (min x.2 hi) r := by
  rw [pc, if_neg h, if_neg (by omega), show max x.1 p = p from by omega]; rfl
theorem pc_over {hi : Int} : ∀ {l : List Sp} {p : Int}, hi ≤ p → pc hi p l = []
  | [], p, h => by rw [pc, if_neg (by omega)]
  | x :: r, p, h => by rw [pc_skip (by omega)]; exact pc_over h

theorem pc_cases {hi p : Int} {x : Sp} {r : List Sp} {C : List (Sp × Bool) → Prop} (h1 : min x.2 hi ≤ max x.1 p → C (pc hi p r)) (h2 : ¬ min x.2 hi ≤ max x.1 p → p < x.1 → C (((p, x.1), false) :: ((x.1, min x.2 hi), true) :: pc hi (min x.2 hi) r)) (h3 : ¬ min x.2 hi ≤ max x.1 p → x.1 ≤ p → C (((p, min x.2 hi), true) :: pc hi (min x.2 hi) r)) : C (pc hi p (x :: r)) := by
  by_cases h : min x.2 hi ≤ max x.1 p
  · rw [pc_skip h]; exact h1 h
  · rcases Int.lt_or_le p x.1 with q | q
    · rw [pc_gap h q]; exact h2 h q
    · rw [pc_on h q]; exact h3 h q

theorem rt_true {hi : Int} (hm : hi ≤ 4611686018427387903) : ∀ {l : List Sp} {lo p : Int}, Rt lo l → Rt (max lo p) (pick true (pc hi p l))
  | [], lo, p, _ => by rw [pc]; split <;> exact trivial
  | x :: r, lo, p, h => by
    have g1 := h.1
    have g2 := h.2.1
    refine pc_cases (C := fun q => Rt (max lo p) (pick true q)) (fun q => ?_) (fun q q' => ?_) (fun q q' => ?_)
    · exact (rt_true hm h.2.2.2).mono (by omega)
    · simp only [pick]
      exact ⟨by show _ ≤ x.1; omega, by show x.1 < min x.2 hi; omega, by show min x.2 hi ≤ _; omega, (rt_true hm h.2.2.2).mono (by show min x.2 hi + 1 ≤ _; omega)⟩
    · simp only [pick]
      exact ⟨by show _ ≤ p; omega, by show p < min x.2 hi; omega, by show min x.2 hi ≤ _; omega, (rt_true hm h.2.2.2).mono (by show min x.2 hi + 1 ≤ _; omega)⟩

theorem rt_false {hi : Int} (hm : hi ≤ 4611686018427387903) : ∀ {l : List Sp} {lo p : Int}, Rt lo l → Rt p (pick false (pc hi p l))
  | [], lo, p, _ => by
    rw [pc]; split
    · exact ⟨Int.le_refl _, by assumption, hm, trivial⟩
    · exact trivial
  | x :: r, lo, p, h => by
    have g1 := h.1
    have g2 := h.2.1
    refine pc_cases (C := fun q => Rt p (pick false q)) (fun q => ?_) (fun q q' => ?_) (fun q q' => ?_)
    · exact rt_false hm h.2.2.2
    · simp only [pick]
      exact ⟨Int.le_refl _, q', by show x.1 ≤ _; omega, (rt_false hm h.2.2.2).mono (by show x.1 + 1 ≤ _; omega)⟩
    · simp only [pick]
      exact (rt_false hm h.2.2.2).mono (by omega)

theorem has_out {l : List Sp} {lo x : Int} (h : Rt lo l) (hx : x < lo) : has l x = false := by
  cases q : has l x with
  | false => rfl
  | true => have := h.low q; omega

theorem inn_eq {s : Sp} {x : Int} {b : Bool} (h : b = true ↔ s.1 ≤ x ∧ x < s.2) : inn s x = b := Bool.eq_iff_iff.mpr (inn_iff.trans h.symm)

theorem inn_off {s : Sp} {x : Int} : inn s x = false ↔ ¬ (s.1 ≤ x ∧ x < s.2) := by rw [← Bool.not_eq_true, inn_iff]

theorem has_true {hi : Int} : ∀ {l : List Sp} {lo p : Int}, Rt lo l → ∀ y, has (pick true (pc hi p l)) y = (inn (p, hi) y && has l y)
  | [], lo, p, _, y => by rw [pc]; split <;> simp [pick, has]
  | x :: r, lo, p, h, y => by
    have g2 := h.2.1
    have hb : has r y = true → x.2 + 1 ≤ y := fun q => (h.2.2.2.low q).1
    refine pc_cases (C := fun q => has (pick true q) y = (inn (p, hi) y && has (x :: r) y)) (fun q => ?_) (fun q q' => ?_) (fun q q' => ?_)
    · rw [has_true h.2.2.2 y]
      apply Bool.eq_iff_iff.mpr
      simp only [has, Bool.and_eq_true, Bool.or_eq_true, inn_iff]
      constructor
      · rintro ⟨a, b⟩; exact ⟨a, .inr b⟩
      · rintro ⟨a, b | b⟩
        · omega
        · exact ⟨a, b⟩
    · simp only [pick, has, reduceCtorEq, if_false, if_true]
      rw [has_true h.2.2.2 y]
      apply Bool.eq_iff_iff.mpr
      simp only [Bool.and_eq_true, Bool.or_eq_true, inn_iff]
      constructor
      · rintro (a | ⟨a, b⟩)
        · exact ⟨by omega, .inl (by omega)⟩
        · exact ⟨by omega, .inr b⟩
      · rintro ⟨a, b | b⟩
        · exact .inl (by omega)
        · exact .inr ⟨by have := hb b; omega, b⟩
    · simp only [pick, has, if_true]
      rw [has_true h.2.2.2 y]
      apply Bool.eq_iff_iff.mpr
      simp only [Bool.and_eq_true, Bool.or_eq_true, inn_iff]
      constructor
      · rintro (a | ⟨a, b⟩)
        · exact ⟨by omega, .inl (by omega)⟩
        · exact ⟨by omega, .inr b⟩
      · rintro ⟨a, b | b⟩
        · exact .inl (by omega)
        · exact .inr ⟨by have := hb b; omega, b⟩

theorem has_false {hi : Int} : ∀ {l : List Sp} {lo p : Int}, Rt lo l → ∀ y, has (pick false (pc hi p l)) y = (inn (p, hi) y && !has l y)
  | [], lo, p, _, y => by
    rw [pc]; split
    · simp [pick, has]
    · have : inn (p, hi) y = false := inn_eq (by simp; omega)
      simp [pick, has, this]
  | x :: r, lo, p, h, y => by
    have g2 := h.2.1
    refine pc_cases (C := fun q => has (pick false q) y = (inn (p, hi) y && !has (x :: r) y)) (fun q => ?_) (fun q q' => ?_) (fun q q' => ?_)
    · rw [has_false h.2.2.2 y]
      apply Bool.eq_iff_iff.mpr
      simp only [has, Bool.and_eq_true, Bool.not_eq_true', Bool.or_eq_false_iff, inn_iff, inn_off]
      constructor
      · rintro ⟨a, b⟩; exact ⟨a, by omega, b⟩
      · rintro ⟨a, b, c⟩; exact ⟨a, c⟩
    · simp only [pick, has, reduceCtorEq, if_false, if_true]
      rw [has_false h.2.2.2 y]
      apply Bool.eq_iff_iff.mpr
      simp only [Bool.and_eq_true, Bool.or_eq_true, Bool.not_eq_true', Bool.or_eq_false_iff, inn_iff, inn_off]
      constructor
      · rintro (a | ⟨a, b⟩)
        · exact ⟨by omega, by omega, has_out h.2.2.2 (by omega)⟩
        · exact ⟨by omega, by omega, b⟩
      · rintro ⟨a, b, c⟩
        rcases Int.lt_or_le y x.1 with d | d
        · exact .inl (by omega)
        · exact .inr ⟨by omega, c⟩
    · simp only [pick, has, reduceCtorEq, if_false]
      rw [has_false h.2.2.2 y]
      apply Bool.eq_iff_iff.mpr
      simp only [Bool.and_eq_true, Bool.not_eq_true', Bool.or_eq_false_iff, inn_iff, inn_off]
      constructor
      · rintro ⟨a, b⟩
        exact ⟨by omega, by omega, b⟩
      · rintro ⟨a, b, c⟩
        exact ⟨by omega, c⟩

theorem len_true {hi : Int} : ∀ {l : List Sp} {p : Int}, (pick true (pc hi p l)).length ≤ l.length
  | [], p => by rw [pc]; split <;> simp [pick]
  | x :: r, p => by
    refine pc_cases (C := fun q => (pick true q).length ≤ (x :: r).length) (fun _ => ?_) (fun _ _ => ?_) (fun _ _ => ?_)
    · have := len_true (hi := hi) (l := r) (p := p); simp; omega
    · have := len_true (hi := hi) (l := r) (p := min x.2 hi); simp [pick]; omega
    · have := len_true (hi := hi) (l := r) (p := min x.2 hi); simp [pick]; omega
theorem len_false {hi : Int} : ∀ {l : List Sp} {p : Int}, (pick false (pc hi p l)).length ≤ l.length + 1
  | [], p => by rw [pc]; split <;> simp [pick]
  | x :: r, p => by
    refine pc_cases (C := fun q => (pick false q).length ≤ (x :: r).length + 1) (fun _ => ?_) (fun _ _ => ?_) (fun _ _ => ?_)
    · have := len_false (hi := hi) (l := r) (p := p); simp; omega
    · have := len_false (hi := hi) (l := r) (p := min x.2 hi); simp [pick]; omega
    · have := len_false (hi := hi) (l := r) (p := min x.2 hi); simp [pick]; omega
theorem len_pc {hi : Int} : ∀ {l : List Sp} {p : Int}, (pc hi p l).length ≤ 2 * l.length + 1
  | [], p => by rw [pc]; split <;> simp
  | x :: r, p => by
    refine pc_cases (C := fun q => q.length ≤ 2 * (x :: r).length + 1) (fun _ => ?_) (fun _ _ => ?_) (fun _ _ => ?_)
    · have := len_pc (hi := hi) (l := r) (p := p); simp; omega
    · have := len_pc (hi := hi) (l := r) (p := min x.2 hi); simp; omega
    · have := len_pc (hi := hi) (l := r) (p := min x.2 hi); simp; omega

/-- What both have; what a span has that a list has not. -/
def wth (l : List Sp) (s : Sp) : List Sp := pick true (pc s.2 s.1 l)
def gps (l : List Sp) (s : Sp) : List Sp := pick false (pc s.2 s.1 l)
def Asked (s : Sp) : Prop := 0 ≤ s.1 ∧ s.1 ≤ s.2 ∧ s.2 ≤ 4611686018427387903

theorem wth_rt {l : List Sp} {s : Sp} (h : Rt 0 l) (ha : Asked s) : Rt 0 (wth l s) := (rt_true ha.2.2 h).mono (by have := ha.1; omega)
theorem gps_rt {l : List Sp} {s : Sp} (h : Rt 0 l) (ha : Asked s) : Rt 0 (gps l s) := (rt_false ha.2.2 h).mono ha.1
theorem wth_has {l : List Sp} {s : Sp} (h : Rt 0 l) (y : Int) : has (wth l s) y = (inn s y && has l y) := has_true h y
theorem gps_has {l : List Sp} {s : Sp} (h : Rt 0 l) (y : Int) : has (gps l s) y = (inn s y && !has l y) := has_false h y

/-- The span itself, as a set. -/
def one (s : Sp) : List Sp := if s.1 < s.2 then [s] else []
theorem one_rt {s : Sp} (ha : Asked s) : Rt 0 (one s) := by
  unfold one; split
  · exact ⟨ha.1, by assumption, ha.2.2, trivial⟩
  · exact trivial
theorem one_has (s : Sp) (y : Int) : has (one s) y = inn s y := by
  unfold one; split
  · simp [has]
  · rw [has]; exact (inn_eq (by simp; omega)).symm
theorem one_siz {s : Sp} (ha : Asked s) : siz (one s) = s.2 - s.1 := by
  unfold one; split
  · simp [siz]
  · have := ha.2.1; simp [siz]; omega

theorem sum_math {l : List Sp} {s : Sp} (h : Rt 0 l) (ha : Asked s) : siz (wth l s) + siz (gps l s) = s.2 - s.1 := by
  rw [← one_siz ha, siz_add (wth_rt h ha) (gps_rt h ha) (one_rt ha)]
  · intro x; rw [one_has, wth_has h, gps_has h]; cases inn s x <;> cases has l x <;> rfl
  · intro x; rw [wth_has h, gps_has h]; cases inn s x <;> cases has l x <;> simp
theorem both_math {l u : List Sp} {s : Sp} (h : Rt 0 l) (ha : Asked s) (hu : Uni (wth l s) (gps l s) u) : u = one s :=
  hu.rt.uniq (one_rt ha) (fun x => by rw [hu.all, one_has, wth_has h, gps_has h]; cases inn s x <;> cases has l x <;> rfl)
theorem back_math3 {l : List Sp} {s : Sp} (h : Rt 0 l) (ha : Asked s) : gps (gps l s) s = wth l s :=
  (gps_rt (gps_rt h ha) ha).uniq (wth_rt h ha) (fun x => by rw [gps_has (gps_rt h ha), gps_has h, wth_has h]; cases inn s x <;> cases has l x <;> rfl)
theorem new_math {l u : List Sp} {s : Sp} (h : Rt 0 l) (ha : Asked s) (hu : Uni l [s] u) : siz u = siz l + siz (gps l s) :=
  siz_add h (gps_rt h ha) hu.rt (fun x => by rw [hu.all, gps_has h, has_one]; cases inn s x <;> cases has l x <;> rfl) (fun x => by rw [gps_has h]; cases inn s x <;> cases has l x <;> simp)
theorem cover_math {l : List Sp} {s : Sp} (h : Rt 0 l) (ha : Asked s) (hc : ∀ x, inn s x = true → has l x = true) : gps l s = [] :=
  (gps_rt h ha).none (fun x => by
    rw [gps_has h]
    cases q : inn s x with
    | false => rfl
    | true => rw [hc x q]; rfl)

end Go.Proofs.Ytlagadpfnkidjac
