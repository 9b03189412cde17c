import Derived.Lib.Small
namespace Go.Proofs.YtillgoegiplmkaaGreatDoor.C

abbrev Sp := Int × Int

/-- Spans that may be, in order, a gap between each two; none begins below lo. -/
def Rt : Int → List Sp → Prop
  | _, [] => True
  | lo, s :: r => lo ≤ s.1 ∧ s.1 < s.2 ∧ s.2 ≤ 4611686018427387903 ∧ Rt (s.2 + 1) r

/-- Is a byte one of a span's, of a list's? -/
def inn (s : Sp) (x : Int) : Bool := decide (s.1 ≤ x) && decide (x < s.2)
def has : List Sp → Int → Bool
  | [], _ => false
  | s :: r, x => inn s x || has r x

theorem inn_iff {s : Sp} {x : Int} : inn s x = true ↔ s.1 ≤ x ∧ x < s.2 := by simp [inn]
theorem has_cons {s : Sp} {r : List Sp} {x : Int} : has (s :: r) x = true ↔ (s.1 ≤ x ∧ x < s.2) ∨ has r x = true := by simp [has, inn]
theorem has_append (a b : List Sp) (x : Int) : has (a ++ b) x = (has a x || has b x) := by
  induction a with
  | nil => simp [has]
  | cons s r ih => simp [has, ih, Bool.or_assoc]
theorem has_mem {l : List Sp} {x : Int} : has l x = true ↔ ∃ s ∈ l, s.1 ≤ x ∧ x < s.2 := by
  induction l with
  | nil => simp [has]
  | cons s r ih => rw [has_cons, ih]; simp

theorem Rt.mono : ∀ {l : List Sp} {lo lo' : Int}, Rt lo l → lo' ≤ lo → Rt lo' l
  | [], _, _, _, _ => trivial
  | _ :: _, _, _, h, hl => ⟨by have := h.1; omega, h.2⟩
theorem Rt.mem : ∀ {l : List Sp} {lo : Int}, Rt lo l → ∀ s ∈ l, lo ≤ s.1 ∧ s.1 < s.2 ∧ s.2 ≤ 4611686018427387903
  | [], _, _, s, hs => by cases hs
  | t :: r, lo, h, s, hs => by
    obtain ⟨h1, h2, h3, h4⟩ := h
    rcases List.mem_cons.mp hs with rfl | hs
    · exact ⟨h1, h2, h3⟩
    · have := Rt.mem h4 s hs; omega
theorem Rt.low {l : List Sp} {lo : Int} (h : Rt lo l) {x : Int} (hx : has l x = true) : lo ≤ x ∧ x < 4611686018427387903 := by
  obtain ⟨s, hs, h1, h2⟩ := has_mem.mp hx
  have := h.mem s hs; omega

theorem Rt.none {l : List Sp} {lo : Int} (h : Rt lo l) (hx : ∀ x, has l x = false) : l = [] := by
  cases l with
  | nil => rfl
  | cons s r =>
    have h1 := hx s.1
    have h2 : has (s :: r) s.1 = true := has_cons.mpr (.inl ⟨Int.le_refl _, h.2.1⟩)
    rw [h1] at h2; cases h2

/-- Two sets with the same bytes are one list. -/
theorem Rt.uniq : ∀ {a b : List Sp} {la lb : Int}, Rt la a → Rt lb b → (∀ x, has a x = has b x) → a = b
  | [], b, _, _, _, hb, he => (hb.none (fun x => (he x).symm)).symm
  | s :: a, [], _, _, ha, _, he => ha.none (fun x => he x)
  | s :: a, t :: b, la, lb, ha, hb, he => by
    have hs : has (t :: b) s.1 = true := by rw [← he]; exact has_cons.mpr (.inl ⟨Int.le_refl _, ha.2.1⟩)
    have ht : has (s :: a) t.1 = true := by rw [he]; exact has_cons.mpr (.inl ⟨Int.le_refl _, hb.2.1⟩)
    have e1 : s.1 = t.1 := by
      have q1 : t.1 ≤ s.1 := by
        rcases has_cons.mp hs with h | h
        · exact h.1
        · have := hb.2.2.2.low h; have := hb.2.1; omega
      have q2 : s.1 ≤ t.1 := by
        rcases has_cons.mp ht with h | h
        · exact h.1
        · have := ha.2.2.2.low h; have := ha.2.1; omega
      omega
    have n1 : ¬ has (s :: a) s.2 = true := by
      intro h
      rcases has_cons.mp h with h | h
      · omega
      · have := ha.2.2.2.low h; omega
    have n2 : ¬ has (t :: b) t.2 = true := by
      intro h
      rcases has_cons.mp h with h | h
      · omega
      · have := hb.2.2.2.low h; omega
    have e2 : s.2 = t.2 := by
      rcases Int.lt_trichotomy s.2 t.2 with h | h | h
      · exact absurd (by rw [he]; exact has_cons.mpr (.inl ⟨by have := ha.2.1; omega, h⟩)) n1
      · exact h
      · exact absurd (by rw [← he]; exact has_cons.mpr (.inl ⟨by have := hb.2.1; omega, h⟩)) n2
    have e : s = t := Prod.ext e1 e2
    subst e
    congr 1
    refine Rt.uniq ha.2.2.2 hb.2.2.2 (fun x => ?_)
    have hx := he x
    simp only [has] at hx
    cases hi : inn s x with
    | false => simpa [hi] using hx
    | true =>
      have q := inn_iff.mp hi
      have z1 : has a x = false := by
        cases z : has a x with
        | false => rfl
        | true => have := ha.2.2.2.low z; omega
      have z2 : has b x = false := by
        cases z : has b x with
        | false => rfl
        | true => have := hb.2.2.2.low z; omega
      rw [z1, z2]

/-- A span behind the others. -/
theorem Rt.snoc : ∀ {l : List Sp} {lo : Int} {s : Sp}, Rt lo (l ++ [s]) ↔ Rt lo l ∧ (∀ t ∈ l, t.2 < s.1) ∧ lo ≤ s.1 ∧ s.1 < s.2 ∧ s.2 ≤ 4611686018427387903
  | [], lo, s => by simp [Rt]
  | t :: r, lo, s => by
    simp only [List.cons_append, Rt, Rt.snoc (l := r), List.mem_cons, forall_eq_or_imp]
    constructor
    · rintro ⟨h1, h2, h3, h4, h5, h6, h7, h8⟩
      exact ⟨⟨h1, h2, h3, h4⟩, ⟨by omega, h5⟩, by omega, h7, h8⟩
    · rintro ⟨⟨h1, h2, h3, h4⟩, ⟨h5, h6⟩, h7, h8, h9⟩
      exact ⟨h1, h2, h3, h4, h6, by omega, h8, h9⟩

def IsSet (l : List Sp) : Prop := l.length ≤ 2000 ∧ Rt 0 l

/-- What a loop over the spans tells: at such a place all was right. -/
theorem Rt.cut {l : List Sp} {lo : Int} : ∀ {a : List Sp}, Rt lo (a ++ l) → Rt lo a
  | [], _ => trivial
  | _ :: _, h => ⟨h.1, h.2.1, h.2.2.1, h.2.2.2.cut⟩
theorem Rt.rest {l : List Sp} : ∀ {a : List Sp} {lo : Int}, Rt lo (a ++ l) → ∃ lo', lo ≤ lo' ∧ Rt lo' l
  | [], lo, h => ⟨lo, Int.le_refl _, h⟩
  | s :: a, lo, h => by
    obtain ⟨lo', h1, h2⟩ := h.2.2.2.rest
    exact ⟨lo', by have := h.1; have := h.2.1; omega, h2⟩
/-! How many bytes. -/
def siz : List Sp → Int
  | [] => 0
  | s :: r => (s.2 - s.1) + siz r
theorem siz_append (a b : List Sp) : siz (a ++ b) = siz a + siz b := by
  induction a with
  | nil => simp [siz]
  | cons s r ih => simp only [List.cons_append, siz, ih]; omega

def cnt (p : Int → Bool) : Nat → Nat
  | 0 => 0
  | n + 1 => cnt p n + (if p n then 1 else 0)
theorem siz_pos {l : List Sp} : ∀ {lo : Int}, Rt lo l → 0 ≤ siz l := by
  induction l with
  | nil => intro _ _; simp [siz]
  | cons s r ih => intro lo h; have := ih h.2.2.2; have := h.2.1; simp only [siz]; omega
theorem siz_most : ∀ {l : List Sp} {lo : Int}, Rt lo l → lo ≤ 4611686018427387904 → siz l ≤ 4611686018427387904 - lo
  | [], lo, _, h => by simp [siz]; omega
  | s :: r, lo, h, _ => by
    have := siz_most h.2.2.2 (by have := h.2.2.1; omega)
    have := h.1; have := h.2.1
    simp only [siz]; omega

/-! Two sets are put together. -/

/-- A span is put to spans of which none begins behind it. -/
def jo (l : List Sp) (s : Sp) : List Sp :=
  match l.getLast? with
  | none => l ++ [s]
  | some t => if t.2 < s.1 then l ++ [s] else l.dropLast ++ [(t.1, max t.2 s.2)]

theorem jo_nil (s : Sp) : jo [] s = [s] := rfl
theorem jo_far (l : List Sp) (t s : Sp) (h : t.2 < s.1) : jo (l ++ [t]) s = l ++ [t] ++ [s] := by
  simp [jo, h]
theorem jo_near (l : List Sp) (t s : Sp) (h : s.1 ≤ t.2) : jo (l ++ [t]) s = l ++ [(t.1, max t.2 s.2)] := by
  have : ¬ t.2 < s.1 := by omega
  simp [jo, this]

/-- What is out, and what is left of both. -/
structure Mg (a b out ra rb : List Sp) : Prop where
  rt : Rt 0 out
  all : ∀ x, (has out x || has ra x || has rb x) = (has a x || has b x)
  okA : Rt 0 ra
  okB : Rt 0 rb
  order : ∀ t ∈ out, (∀ s ∈ ra, t.1 ≤ s.1) ∧ ∀ s ∈ rb, t.1 ≤ s.1
  len : out.length + (ra.length + rb.length) ≤ a.length + b.length

theorem Mg.swap {a b out ra rb : List Sp} (h : Mg a b out ra rb) : Mg a b out rb ra :=
  ⟨h.rt, fun x => by rw [← h.all x]; cases has out x <;> cases has ra x <;> cases has rb x <;> rfl, h.okB, h.okA, fun t ht => (h.order t ht).symm, by have := h.len; omega⟩
theorem Mg.start {a b : List Sp} (ha : Rt 0 a) (hb : Rt 0 b) : Mg a b [] a b :=
  ⟨trivial, fun x => by simp [has], ha, hb, (fun _ h => by cases h), by simp⟩

theorem Rt.next {s : Sp} {r : List Sp} {lo : Int} (h : Rt lo (s :: r)) : ∀ t ∈ r, s.1 ≤ t.1 := fun t ht => by
  have := h.2.2.2.mem t ht; have := h.2.1; omega

theorem has_one (s : Sp) (x : Int) : has [s] x = inn s x := by simp [has]

theorem Mg.step {a b out ra rb : List Sp} {s : Sp} (h : Mg a b out (s :: ra) rb) (hf : ∀ t ∈ rb, s.1 ≤ t.1) : Mg a b (jo out s) ra rb := by
  obtain ⟨h1, h2, h3, h4, h5, h6⟩ := h
  have hra := h3.2.2.2.mono (lo' := 0) (by have := h3.1; have := h3.2.1; omega)
  have s0 := h3.1
  have s1 := h3.2.1
  have s2 := h3.2.2.1
  have hn := h3.next
  by_cases ho : out = []
  · subst ho
    rw [jo_nil]
    refine ⟨⟨s0, s1, s2, trivial⟩, fun x => ?_, hra, h4, ?_, by simp at h6 ⊢; omega⟩
    · rw [← h2 x]; simp [has]
    · intro t ht
      simp at ht; subst ht
      exact ⟨hn, hf⟩
  · obtain ⟨l, t, rfl⟩ : ∃ l t, out = l ++ [t] := ⟨out.dropLast, out.getLast ho, (List.dropLast_concat_getLast ho).symm⟩
    have ho := h5 t (by simp)
    have hts := ho.1 s (by simp)
    obtain ⟨g1, g2, g3, g4, g5⟩ := Rt.snoc.mp h1
    by_cases hl : t.2 < s.1
    · rw [jo_far _ _ _ hl]
      refine ⟨Rt.snoc.mpr ⟨h1, ?_, s0, s1, s2⟩, fun x => ?_, hra, h4, ?_, by simp at h6 ⊢; omega⟩
      · intro u hu
        rcases List.mem_append.mp hu with hu | hu
        · have := g2 u hu; omega
        · simp at hu; subst hu; exact hl
      · rw [← h2 x, has_append, has_one]; simp only [has]
        cases has (l ++ [t]) x <;> cases inn s x <;> simp
      · intro u hu
        rcases List.mem_append.mp hu with hu | hu
        · exact ⟨fun v hv => (h5 u hu).1 v (by simp [hv]), (h5 u hu).2⟩
        · simp at hu; subst hu; exact ⟨hn, hf⟩
    · rw [jo_near _ _ _ (by omega)]
      refine ⟨Rt.snoc.mpr ⟨g1, g2, g3, by simp; omega, by simp; omega⟩, fun x => ?_, hra, h4, ?_, by simp at h6 ⊢; omega⟩
      · rw [← h2 x, has_append, has_append, has_one, has_one]; simp only [has]
        have e : inn (t.1, max t.2 s.2) x = (inn t x || inn s x) := by
          apply Bool.eq_iff_iff.mpr
          simp only [inn_iff, Bool.or_eq_true]
          omega
        rw [e]
        cases has l x <;> cases inn s x <;> cases inn t x <;> simp
      · intro u hu
        rcases List.mem_append.mp hu with hu | hu
        · exact ⟨fun v hv => (h5 u (by simp [hu])).1 v (by simp [hv]), (h5 u (by simp [hu])).2⟩
        · simp at hu; subst hu; exact ⟨fun v hv => ho.1 v (by simp [hv]), ho.2⟩

/-- u is what is in one of both, or in both. -/
structure Uni (a b u : List Sp) : Prop where
  rt : Rt 0 u
  all : ∀ x, has u x = (has a x || has b x)
  len : u.length ≤ a.length + b.length
theorem Mg.done {a b out : List Sp} (h : Mg a b out [] []) : Uni a b out :=
  ⟨h.rt, fun x => by rw [← h.all x]; simp [has], by have := h.len; simp at this; omega⟩
theorem Uni.uniq {a b u v : List Sp} (h : Uni a b u) (h' : Uni a b v) : u = v := h.rt.uniq h'.rt (fun x => by rw [h.all, h'.all])
end Go.Proofs.YtillgoegiplmkaaGreatDoor.C

namespace Go.Proofs.YtillgoegiplmkaaGreatDoor.C

/-- The pieces from p up to hi: those that are of the list, and those that are not. -/
def pc (hi : Int) : Int → List Sp → List (Sp × Bool)
  | p, [] => if p < hi then [((p, hi), false)] else []
  | p, x :: r => if min x.2 hi ≤ max x.1 p then pc hi p r else (if p < max x.1 p then [((p, max x.1 p), false)] else []) ++ ((max x.1 p, min x.2 hi), true) :: pc hi (min x.2 hi) r

def pick (b : Bool) : List (Sp × Bool) → List Sp
  | [] => []
  | s :: r => if s.2 = b then s.1 :: pick b r else pick b r
theorem pick_append (b : Bool) (l m : List (Sp × Bool)) : pick b (l ++ m) = pick b l ++ pick b m := by
  induction l with
  | nil => rfl
  | cons s r ih => simp only [List.cons_append, pick, ih]; split <;> simp

theorem pc_skip {hi p : Int} {x : Sp} {r : List Sp} (h : min x.2 hi ≤ max x.1 p) : pc hi p (x :: r) = pc hi p r := by rw [pc, if_pos h]
theorem pc_gap {hi p : Int} {x : Sp} {r : List Sp} (h : ¬ min x.2 hi ≤ max x.1 p) (hp : p < x.1) : pc hi p (x :: r) = ((p, x.1), false) :: ((x.1, min x.2 hi), true) :: pc hi (min x.2 hi) r := by
  rw [pc, if_neg h, if_pos (by omega), show max x.1 p = x.1 from by omega]; rfl
theorem pc_on {hi p : Int} {x : Sp} {r : List Sp} (h : ¬ min x.2 hi ≤ max x.1 p) (hp : x.1 ≤ p) : pc hi p (x :: r) = ((p, min x.2 hi), true) :: pc hi (min x.2 hi) r := by
  rw [pc, if_neg h, if_neg (by omega), show max x.1 p = p from by omega]; rfl
theorem pc_cases {hi p : Int} {x : Sp} {r : List Sp} {C : List (Sp × Bool) → Prop} (h1 : min x.2 hi ≤ max x.1 p → C (pc hi p r)) (h2 : ¬ min x.2 hi ≤ max x.1 p → p < x.1 → C (((p, x.1), false) :: ((x.1, min x.2 hi), true) :: pc hi (min x.2 hi) r)) (h3 : ¬ min x.2 hi ≤ max x.1 p → x.1 ≤ p → C (((p, min x.2 hi), true) :: pc hi (min x.2 hi) r)) : C (pc hi p (x :: r)) := by
  by_cases h : min x.2 hi ≤ max x.1 p
  · rw [pc_skip h]; exact h1 h
  · rcases Int.lt_or_le p x.1 with q | q
    · rw [pc_gap h q]; exact h2 h q
    · rw [pc_on h q]; exact h3 h q

theorem rt_true {hi : Int} (hm : hi ≤ 4611686018427387903) : ∀ {l : List Sp} {lo p : Int}, Rt lo l → Rt (max lo p) (pick true (pc hi p l))
  | [], lo, p, _ => by rw [pc]; split <;> exact trivial
  | x :: r, lo, p, h => by
    have g1 := h.1
    have g2 := h.2.1
    refine pc_cases (C := fun q => Rt (max lo p) (pick true q)) (fun q => ?_) (fun q q' => ?_) (fun q q' => ?_)
    · exact (rt_true hm h.2.2.2).mono (by omega)
    · simp only [pick]
      exact ⟨by show _ ≤ x.1; omega, by show x.1 < min x.2 hi; omega, by show min x.2 hi ≤ _; omega, (rt_true hm h.2.2.2).mono (by show min x.2 hi + 1 ≤ _; omega)⟩
    · simp only [pick]
      exact ⟨by show _ ≤ p; omega, by show p < min x.2 hi; omega, by show min x.2 hi ≤ _; omega, (rt_true hm h.2.2.2).mono (by show min x.2 hi + 1 ≤ _; omega)⟩

theorem rt_false {hi : Int} (hm : hi ≤ 4611686018427387903) : ∀ {l : List Sp} {lo p : Int}, Rt lo l → Rt p (pick false (pc hi p l))
  | [], lo, p, _ => by
    rw [pc]; split
    · exact ⟨Int.le_refl _, by assumption, hm, trivial⟩
    · exact trivial
  | x :: r, lo, p, h => by
    have g1 := h.1
    have g2 := h.2.1
    refine pc_cases (C := fun q => Rt p (pick false q)) (fun q => ?_) (fun q q' => ?_) (fun q q' => ?_)
    · exact rt_false hm h.2.2.2
    · simp only [pick]
      exact ⟨Int.le_refl _, q', by show x.1 ≤ _; omega, (rt_false hm h.2.2.2).mono (by show x.1 + 1 ≤ _; omega)⟩
    · simp only [pick]
      exact (rt_false hm h.2.2.2).mono (by omega)

theorem has_out {l : List Sp} {lo x : Int} (h : Rt lo l) (hx : x < lo) : has l x = false := by
  cases q : has l x with
  | false => rfl
  | true => have := h.low q; omega

theorem inn_eq {s : Sp} {x : Int} {b : Bool} (h : b = true ↔ s.1 ≤ x ∧ x < s.2) : inn s x = b := Bool.eq_iff_iff.mpr (inn_iff.trans h.symm)

theorem inn_off {s : Sp} {x : Int} : inn s x = false ↔ ¬ (s.1 ≤ x ∧ x < s.2) := by rw [← Bool.not_eq_true, inn_iff]

theorem has_true {hi : Int} : ∀ {l : List Sp} {lo p : Int}, Rt lo l → ∀ y, has (pick true (pc hi p l)) y = (inn (p, hi) y && has l y)
  | [], lo, p, _, y => by rw [pc]; split <;> simp [pick, has]
  | x :: r, lo, p, h, y => by
    have g2 := h.2.1
    have hb : has r y = true → x.2 + 1 ≤ y := fun q => (h.2.2.2.low q).1
    refine pc_cases (C := fun q => has (pick true q) y = (inn (p, hi) y && has (x :: r) y)) (fun q => ?_) (fun q q' => ?_) (fun q q' => ?_)
    · rw [has_true h.2.2.2 y]
      apply Bool.eq_iff_iff.mpr
      simp only [has, Bool.and_eq_true, Bool.or_eq_true, inn_iff]
      constructor
      · rintro ⟨a, b⟩; exact ⟨a, .inr b⟩
      · rintro ⟨a, b | b⟩
        · omega
        · exact ⟨a, b⟩
    · simp only [pick, has, reduceCtorEq, if_false, if_true]
      rw [has_true h.2.2.2 y]
      apply Bool.eq_iff_iff.mpr
      simp only [Bool.and_eq_true, Bool.or_eq_true, inn_iff]
      constructor
      · rintro (a | ⟨a, b⟩)
        · exact ⟨by omega, .inl (by omega)⟩
        · exact ⟨by omega, .inr b⟩
      · rintro ⟨a, b | b⟩
        · exact .inl (by omega)
        · exact .inr ⟨by have := hb b; omega, b⟩
    · simp only [pick, has, if_true]
      rw [has_true h.2.2.2 y]
      apply Bool.eq_iff_iff.mpr
      simp only [Bool.and_eq_true, Bool.or_eq_true, inn_iff]
      constructor
      · rintro (a | ⟨a, b⟩)
        · exact ⟨by omega, .inl (by omega)⟩
        · exact ⟨by omega, .inr b⟩
      · rintro ⟨a, b | b⟩
        · exact .inl (by omega)
        · exact .inr ⟨by have := hb b; omega, b⟩

theorem has_false {hi : Int} : ∀ {l : List Sp} {lo p : Int}, Rt lo l → ∀ y, has (pick false (pc hi p l)) y = (inn (p, hi) y && !has l y)
  | [], lo, p, _, y => by
    rw [pc]; split
    · simp [pick, has]
    · have : inn (p, hi) y = false := inn_eq (by simp; omega)
      simp [pick, has, this]
  | x :: r, lo, p, h, y => by
    have g2 := h.2.1
    refine pc_cases (C := fun q => has (pick false q) y = (inn (p, hi) y && !has (x :: r) y)) (fun q => ?_) (fun q q' => ?_) (fun q q' => ?_)
    · rw [has_false h.2.2.2 y]
      apply Bool.eq_iff_iff.mpr
      simp only [has, Bool.and_eq_true, Bool.not_eq_true', Bool.or_eq_false_iff, inn_iff, inn_off]
      constructor
      · rintro ⟨a, b⟩; exact ⟨a, by omega, b⟩
      · rintro ⟨a, b, c⟩; exact ⟨a, c⟩
    · simp only [pick, has, reduceCtorEq, if_false, if_true]
      rw [has_false h.2.2.2 y]
      apply Bool.eq_iff_iff.mpr
      simp only [Bool.and_eq_true, Bool.or_eq_true, Bool.not_eq_true', Bool.or_eq_false_iff, inn_iff, inn_off]
      constructor
      · rintro (a | ⟨a, b⟩)
        · exact ⟨by omega, by omega, has_out h.2.2.2 (by omega)⟩
        · exact ⟨by omega, by omega, b⟩
      · rintro ⟨a, b, c⟩
        rcases Int.lt_or_le y x.1 with d | d
        · exact .inl (by omega)
        · exact .inr ⟨by omega, c⟩
    · simp only [pick, has, reduceCtorEq, if_false]
      rw [has_false h.2.2.2 y]
      apply Bool.eq_iff_iff.mpr
      simp only [Bool.and_eq_true, Bool.not_eq_true', Bool.or_eq_false_iff, inn_iff, inn_off]
      constructor
      · rintro ⟨a, b⟩
        exact ⟨by omega, by omega, b⟩
      · rintro ⟨a, b, c⟩
        exact ⟨by omega, c⟩

theorem len_true {hi : Int} : ∀ {l : List Sp} {p : Int}, (pick true (pc hi p l)).length ≤ l.length
  | [], p => by rw [pc]; split <;> simp [pick]
  | x :: r, p => by
    refine pc_cases (C := fun q => (pick true q).length ≤ (x :: r).length) (fun _ => ?_) (fun _ _ => ?_) (fun _ _ => ?_)
    · have := len_true (hi := hi) (l := r) (p := p); simp; omega
    · have := len_true (hi := hi) (l := r) (p := min x.2 hi); simp [pick]; omega
    · have := len_true (hi := hi) (l := r) (p := min x.2 hi); simp [pick]; omega
theorem len_pc {hi : Int} : ∀ {l : List Sp} {p : Int}, (pc hi p l).length ≤ 2 * l.length + 1
  | [], p => by rw [pc]; split <;> simp
  | x :: r, p => by
    refine pc_cases (C := fun q => q.length ≤ 2 * (x :: r).length + 1) (fun _ => ?_) (fun _ _ => ?_) (fun _ _ => ?_)
    · have := len_pc (hi := hi) (l := r) (p := p); simp; omega
    · have := len_pc (hi := hi) (l := r) (p := min x.2 hi); simp; omega
    · have := len_pc (hi := hi) (l := r) (p := min x.2 hi); simp; omega

/-- What both have; what a span has that a list has not. -/
def wth (l : List Sp) (s : Sp) : List Sp := pick true (pc s.2 s.1 l)
def gps (l : List Sp) (s : Sp) : List Sp := pick false (pc s.2 s.1 l)
def Asked (s : Sp) : Prop := 0 ≤ s.1 ∧ s.1 ≤ s.2 ∧ s.2 ≤ 4611686018427387903

theorem gps_rt {l : List Sp} {s : Sp} (h : Rt 0 l) (ha : Asked s) : Rt 0 (gps l s) := (rt_false ha.2.2 h).mono ha.1
theorem gps_has {l : List Sp} {s : Sp} (h : Rt 0 l) (y : Int) : has (gps l s) y = (inn s y && !has l y) := has_false h y

/-- The span itself, as a set. -/
def one (s : Sp) : List Sp := if s.1 < s.2 then [s] else []
theorem cover_math {l : List Sp} {s : Sp} (h : Rt 0 l) (ha : Asked s) (hc : ∀ x, inn s x = true → has l x = true) : gps l s = [] :=
  (gps_rt h ha).none (fun x => by
    rw [gps_has h]
    cases q : inn s x with
    | false => rfl
    | true => rw [hc x q]; rfl)

end Go.Proofs.YtillgoegiplmkaaGreatDoor.C

namespace Go.Proofs.YtillgoegiplmkaaGreatDoor.B
open C
set_option linter.unusedVariables false
set_option linter.unusedSimpArgs false

/-! ## A set and a span more -/
def un : List Sp → Sp → List Sp
  | [], s => [s]
  | t :: r, s => if t.2 < s.1 then t :: un r s else if s.2 < t.1 then s :: t :: r else un r (min t.1 s.1, max t.2 s.2)

theorem un_len : ∀ (l : List Sp) (s : Sp), 1 ≤ (un l s).length ∧ (un l s).length ≤ l.length + 1
  | [], s => by simp [un]
  | t :: r, s => by
      rw [un]
      split
      · have := un_len r s; simp only [List.length_cons]; omega
      · split
        · simp
        · have := un_len r (min t.1 s.1, max t.2 s.2); simp only [List.length_cons]; omega

theorem un_rt : ∀ {l : List Sp} {lo : Int} {s : Sp}, Rt lo l → lo ≤ s.1 → s.1 < s.2 → s.2 ≤ 4611686018427387903 → Rt lo (un l s)
  | [], lo, s, _, h1, h2, h3 => by simp only [un, Rt]; exact ⟨h1, h2, h3, trivial⟩
  | t :: r, lo, s, h, h1, h2, h3 => by
      obtain ⟨a1, a2, a3, a4⟩ := h
      rw [un]
      split
      · exact ⟨a1, a2, a3, un_rt a4 (by omega) h2 h3⟩
      · split
        · exact ⟨h1, h2, h3, by omega, a2, a3, a4⟩
        · exact un_rt (a4.mono (by omega)) (by simp only; omega) (by simp only; omega) (by simp only; omega)

theorem un_has : ∀ {l : List Sp} {lo : Int} {s : Sp}, Rt lo l → s.1 < s.2 → ∀ x, has (un l s) x = (has l x || inn s x)
  | [], lo, s, _, _, x => by simp [un, has]
  | t :: r, lo, s, h, h2, x => by
      obtain ⟨a1, a2, a3, a4⟩ := h
      rw [un]
      split
      · simp only [has]; rw [un_has a4 h2 x, Bool.or_assoc]
      · split
        · simp only [has]; rw [Bool.or_comm]
        · rename_i b1 b2
          rw [un_has a4 (by simp only; omega) x]
          simp only [has]
          have e : inn (min t.1 s.1, max t.2 s.2) x = (inn t x || inn s x) := by
            rw [Bool.eq_iff_iff, inn_iff, Bool.or_eq_true, inn_iff, inn_iff]
            simp only
            omega
          rw [e]
          cases inn t x <;> cases has r x <;> cases inn s x <;> rfl

theorem un_uni {l : List Sp} {s : Sp} (h : Rt 0 l) (h0 : 0 ≤ s.1) (h2 : s.1 < s.2) (h3 : s.2 ≤ 4611686018427387903) : Uni l [s] (un l s) :=
  ⟨un_rt h h0 h2 h3, fun x => by rw [un_has h h2 x, has_one], (un_len l s).2⟩
theorem un_of {l u : List Sp} {s : Sp} (h : Rt 0 l) (h0 : 0 ≤ s.1) (h2 : s.1 < s.2) (h3 : s.2 ≤ 4611686018427387903) (hu : Uni l [s] u) : u = un l s := hu.uniq (un_uni h h0 h2 h3)

/-- A set and many more. -/
def uns (l m : List Sp) : List Sp := m.foldl un l
theorem uns_cons (l : List Sp) (s : Sp) (m : List Sp) : uns l (s :: m) = uns (un l s) m := rfl
theorem uns_all : ∀ {m l : List Sp} {lo : Int}, Rt 0 l → Rt lo m → 0 ≤ lo → Uni l m (uns l m)
  | [], l, lo, h, _, _ => ⟨h, fun x => by simp [uns, has], by simp [uns]⟩
  | s :: m, l, lo, h, hm, h0 => by
      obtain ⟨a1, a2, a3, a4⟩ := hm
      have u := un_uni h (by omega) a2 a3
      have v := uns_all (l := un l s) u.rt a4 (by omega)
      rw [uns_cons]
      refine ⟨v.rt, fun x => ?_, ?_⟩
      · rw [v.all, u.all, has_one]; simp only [has]; rw [Bool.or_assoc]
      · have := v.len; have := u.len; simp only [List.length_cons, List.length_nil] at *; omega
theorem uns_of {l m u : List Sp} (h : Rt 0 l) (hm : Rt 0 m) (hu : Uni l m u) : u = uns l m := hu.uniq (uns_all h hm (by omega))
theorem uns_nil {m : List Sp} (h : Rt 0 m) : uns [] m = m := ((uns_of (l := []) (u := m) trivial h ⟨h, fun x => by simp [has], by simp⟩)).symm

/-- A span that lies behind all of a set, a gap between. -/
theorem un_behind : ∀ {l : List Sp} {s : Sp}, (∀ t ∈ l, t.2 < s.1) → un l s = l ++ [s]
  | [], s, _ => rfl
  | t :: r, s, h => by rw [un, if_pos (h t (by simp)), un_behind (fun u hu => h u (by simp [hu]))]; rfl

/-! ## A tomb's lowest spans become one -/
def nar (l : List Sp) : List Sp := if l.length ≤ 500 then l else ((l.getD 0 (0, 0)).1, (l.getD (l.length - 500) (0, 0)).2) :: l.drop (l.length - 500 + 1)
theorem nar_len (l : List Sp) : (nar l).length ≤ 500 := by
  unfold nar
  split
  · assumption
  · simp only [List.length_cons, List.length_drop]; omega
theorem nar_pos {l : List Sp} (h : l ≠ []) : nar l ≠ [] := by
  unfold nar
  split
  · exact h
  · simp
theorem nar_same {l : List Sp} (h : l.length ≤ 500) : nar l = l := if_pos h

theorem rt_first {l : List Sp} {lo : Int} (h : Rt lo l) (hl : 0 < l.length) : lo ≤ (l.getD 0 (0, 0)).1 := by
  cases l with
  | nil => simp at hl
  | cons a r => exact h.1
theorem rt_at : ∀ {l : List Sp} {lo : Int} {k : Nat}, Rt lo l → k < l.length → (l.getD 0 (0, 0)).1 ≤ (l.getD k (0, 0)).1 ∧ (l.getD k (0, 0)).1 < (l.getD k (0, 0)).2 ∧ (l.getD k (0, 0)).2 ≤ 4611686018427387903 ∧ Rt ((l.getD k (0, 0)).2 + 1) (l.drop (k + 1))
  | [], _, _, _, hk => by simp at hk
  | a :: r, lo, 0, h, _ => by
      obtain ⟨a1, a2, a3, a4⟩ := h
      exact ⟨Int.le_refl _, a2, a3, by simpa using a4⟩
  | a :: r, lo, k + 1, h, hk => by
      obtain ⟨a1, a2, a3, a4⟩ := h
      have hk' : k < r.length := by simpa using hk
      obtain ⟨b1, b2, b3, b4⟩ := rt_at a4 hk'
      have b0 := rt_first a4 (by omega)
      refine ⟨?_, ?_, ?_, ?_⟩
      · simp only [List.getD_cons_zero, List.getD_cons_succ]; omega
      · simpa using b2
      · simpa using b3
      · simpa using b4
theorem nar_rt {l : List Sp} {lo : Int} (h : Rt lo l) : Rt lo (nar l) := by
  unfold nar
  split
  · exact h
  · rename_i hl
    have hk : l.length - 500 < l.length := by omega
    obtain ⟨b1, b2, b3, b4⟩ := rt_at h hk
    have b0 := rt_first h (by omega)
    exact ⟨b0, by simp only; omega, b3, b4⟩
end Go.Proofs.YtillgoegiplmkaaGreatDoor.B

namespace Go.Proofs.YtillgoegiplmkaaGreatDoor.B
set_option linter.unusedVariables false
set_option linter.unusedSimpArgs false
set_option linter.unusedSectionVars false

/-! ## A list in the order of its keys, each key once -/
structure Ord {κ : Type} (lt : κ → κ → Bool) : Prop where
  irr : ∀ a, lt a a = false
  tr : ∀ {a b c}, lt a b = true → lt b c = true → lt a c = true
  tot : ∀ {a b}, lt a b = false → a ≠ b → lt b a = true

def ltI (a b : Int) : Bool := decide (a < b)
theorem ordI : Ord ltI := ⟨fun a => by simp [ltI], fun {a b c} h1 h2 => by simp only [ltI, decide_eq_true_eq] at *; omega, fun {a b} h1 h2 => by simp only [ltI, decide_eq_true_eq, decide_eq_false_iff_not] at *; omega⟩
def ltS (a b : Int × Int) : Bool := decide (a.1 < b.1 ∨ a.1 = b.1 ∧ a.2 < b.2)
theorem ordS : Ord ltS := ⟨fun a => by simp [ltS], fun {a b c} h1 h2 => by simp only [ltS, decide_eq_true_eq] at *; omega, fun {a b} h1 h2 => by
  obtain ⟨a1, a2⟩ := a
  obtain ⟨b1, b2⟩ := b
  simp only [ltS, decide_eq_true_eq, decide_eq_false_iff_not, ne_eq, Prod.mk.injEq] at *; omega⟩

section
variable {κ α : Type} [DecidableEq κ] (lt : κ → κ → Bool) (key : α → κ)
def fnd (k : κ) : List α → Option α
  | [] => none
  | y :: r => if key y = k then some y else fnd k r
def ins (x : α) : List α → List α
  | [] => [x]
  | y :: r => if lt (key y) (key x) = true then y :: ins x r else if key y = key x then x :: r else x :: y :: r
def rm (k : κ) (l : List α) : List α := l.filter (fun x => !decide (key x = k))
def Srt (l : List α) : Prop := l.Pairwise (fun a b => lt (key a) (key b) = true)

variable {lt key}
theorem Ord.ne (o : Ord lt) {a b : κ} (h : lt a b = true) : a ≠ b := fun e => by subst e; rw [o.irr] at h; cases h
theorem fnd_some {k : κ} : ∀ {l : List α} {x : α}, fnd key k l = some x → x ∈ l ∧ key x = k
  | [], _, h => by simp [fnd] at h
  | y :: r, x, h => by
      rw [fnd] at h
      split at h
      · cases h; exact ⟨by simp, by assumption⟩
      · obtain ⟨a, b⟩ := fnd_some h; exact ⟨by simp [a], b⟩
theorem fnd_none {k : κ} : ∀ {l : List α}, fnd key k l = none ↔ ∀ x ∈ l, key x ≠ k
  | [] => by simp [fnd]
  | y :: r => by
      rw [fnd]
      split
      · rename_i h; simp; intro hh; exact absurd h hh
      · rename_i h; rw [fnd_none]; simp [h]
theorem fnd_mem (o : Ord lt) : ∀ {l : List α} {x : α}, Srt lt key l → x ∈ l → fnd key (key x) l = some x
  | [], _, _, h => by simp at h
  | y :: r, x, hs, h => by
      obtain ⟨h1, h2⟩ := List.pairwise_cons.mp hs
      rw [fnd]
      rcases List.mem_cons.mp h with rfl | h
      · simp
      · rw [if_neg (o.ne (h1 x h)), fnd_mem o h2 h]
theorem mem_ins {x : α} : ∀ {l : List α} {y : α}, y ∈ ins lt key x l → y = x ∨ y ∈ l
  | [], y, h => by simp [ins] at h; exact .inl h
  | z :: r, y, h => by
      rw [ins] at h
      split at h
      · rcases List.mem_cons.mp h with rfl | h
        · simp
        · rcases mem_ins h with h | h
          · exact .inl h
          · exact .inr (by simp [h])
      · split at h
        · rcases List.mem_cons.mp h with rfl | h
          · exact .inl rfl
          · exact .inr (by simp [h])
        · rcases List.mem_cons.mp h with rfl | h
          · exact .inl rfl
          · exact .inr h
theorem ins_srt (o : Ord lt) {x : α} : ∀ {l : List α}, Srt lt key l → Srt lt key (ins lt key x l)
  | [], _ => by simp [ins, Srt]
  | z :: r, h => by
      obtain ⟨h1, h2⟩ := List.pairwise_cons.mp h
      rw [ins]
      split
      · rename_i c
        refine List.pairwise_cons.mpr ⟨fun y hy => ?_, ins_srt o h2⟩
        rcases mem_ins hy with rfl | hy
        · exact c
        · exact h1 y hy
      · rename_i c
        split
        · rename_i e
          exact List.pairwise_cons.mpr ⟨fun y hy => e ▸ h1 y hy, h2⟩
        · rename_i e
          have q := o.tot (by simpa using c) e
          refine List.pairwise_cons.mpr ⟨fun y hy => ?_, h⟩
          rcases List.mem_cons.mp hy with rfl | hy
          · exact q
          · exact o.tr q (h1 y hy)
theorem fnd_ins (o : Ord lt) {x : α} {k : κ} : ∀ {l : List α}, Srt lt key l → fnd key k (ins lt key x l) = if key x = k then some x else fnd key k l
  | [], _ => by simp [ins, fnd]
  | z :: r, h => by
      obtain ⟨h1, h2⟩ := List.pairwise_cons.mp h
      rw [ins]
      split
      · rename_i c
        rw [fnd, fnd, fnd_ins o h2]
        by_cases e : key z = k
        · rw [if_pos e, if_pos e, if_neg (fun q => o.ne c (e.trans q.symm))]
        · rw [if_neg e, if_neg e]
      · split
        · rename_i e
          rw [fnd, fnd]
          by_cases q : key x = k
          · rw [if_pos q, if_pos q]
          · rw [if_neg q, if_neg q, if_neg (fun e2 => q (e ▸ e2))]
        · rw [fnd]
theorem rm_srt {k : κ} {l : List α} (h : Srt lt key l) : Srt lt key (rm key k l) := h.filter _
theorem mem_rm {k : κ} {l : List α} {y : α} : y ∈ rm key k l ↔ y ∈ l ∧ key y ≠ k := by simp [rm]
theorem fnd_rm {k k' : κ} : ∀ {l : List α}, fnd key k' (rm key k l) = if k = k' then none else fnd key k' l
  | [] => by simp [rm, fnd]
  | z :: r => by
      have ih := fnd_rm (k := k) (k' := k') (l := r)
      unfold rm at ih ⊢
      rw [List.filter_cons]
      by_cases e : key z = k
      · simp only [e, decide_true, Bool.not_true, Bool.false_eq_true, if_false]
        rw [ih, fnd]
        by_cases q : k = k'
        · rw [if_pos q, if_pos q]
        · rw [if_neg q, if_neg q, if_neg (fun e2 => q (e ▸ e2))]
      · simp only [e, decide_false, Bool.not_false, if_true]
        rw [fnd, ih, fnd]
        by_cases q : k = k'
        · subst q; simp [e]
        · simp [q]
/-- What stands behind all comes last. -/
theorem ins_last {x : α} : ∀ {l : List α}, (∀ y ∈ l, lt (key y) (key x) = true) → ins lt key x l = l ++ [x]
  | [], _ => rfl
  | z :: r, h => by rw [ins, if_pos (h z (by simp)), ins_last (fun y hy => h y (by simp [hy]))]; rfl
/-- What is there is changed where it stands. -/
theorem ins_at (o : Ord lt) {x y : α} : ∀ {a b : List α}, Srt lt key (a ++ y :: b) → key y = key x → ins lt key x (a ++ y :: b) = a ++ x :: b
  | [], b, h, e => by
      simp only [List.nil_append]
      rw [ins, e, if_neg (by rw [o.irr]; simp), if_pos rfl]
  | z :: a, b, h, e => by
      obtain ⟨h1, h2⟩ := List.pairwise_cons.mp h
      simp only [List.cons_append]
      rw [ins, if_pos (e ▸ h1 y (by simp)), ins_at o h2 e]
end
end Go.Proofs.YtillgoegiplmkaaGreatDoor.B
