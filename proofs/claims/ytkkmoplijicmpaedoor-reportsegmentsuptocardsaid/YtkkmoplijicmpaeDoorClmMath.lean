import Derived.Lib.Small
namespace Go.Proofs.YtkkmoplijicmpaeDoor.C

abbrev Sp := Int × Int

/-- Spans that may be, in order, a gap between each two; none begins below lo. -/
def Rt : Int → List Sp → Prop
  | _, [] => True
  | lo, s :: r => lo ≤ s.1 ∧ s.1 < s.2 ∧ s.2 ≤ 4611686018427387903 ∧ Rt (s.2 + 1) r

/-- Is a byte one of a span's, of a list's? -/
def inn (s : Sp) (x : Int) : Bool := decide (s.1 ≤ x) && decide (x < s.2)
def has : List Sp → Int → Bool
  | [], _ => false
  | s :: r, x => inn s x || has r x

theorem inn_iff {s : Sp} {x : Int} : inn s x = true ↔ s.1 ≤ x ∧ x < s.2 := by simp [inn]
theorem has_cons {s : Sp} {r : List Sp} {x : Int} : has (s :: r) x = true ↔ (s.1 ≤ x ∧ x < s.2) ∨ has r x = true := by simp [has, inn]
theorem has_append (a b : List Sp) (x : Int) : has (a ++ b) x = (has a x || has b x) := by
  induction a with
  | nil => simp [has]
  | cons s r ih => simp [has, ih, Bool.or_assoc]
theorem has_mem {l : List Sp} {x : Int} : has l x = true ↔ ∃ s ∈ l, s.1 ≤ x ∧ x < s.2 := by
  induction l with
  | nil => simp [has]
  | cons s r ih => rw [has_cons, ih]; simp

theorem Rt.mono : ∀ {l : List Sp} {lo lo' : Int}, Rt lo l → lo' ≤ lo → Rt lo' l
  | [], _, _, _, _ => trivial
  | _ :: _, _, _, h, hl => ⟨by have := h.1; omega, h.2⟩
theorem Rt.mem : ∀ {l : List Sp} {lo : Int}, Rt lo l → ∀ s ∈ l, lo ≤ s.1 ∧ s.1 < s.2 ∧ s.2 ≤ 4611686018427387903
  | [], _, _, s, hs => by cases hs
  | t :: r, lo, h, s, hs => by
    obtain ⟨h1, h2, h3, h4⟩ := h
    rcases List.mem_cons.mp hs with rfl | hs
    · exact ⟨h1, h2, h3⟩
    · have := Rt.mem h4 s hs; omega
theorem Rt.low {l : List Sp} {lo : Int} (h : Rt lo l) {x : Int} (hx : has l x = true) : lo ≤ x ∧ x < 4611686018427387903 := by
  obtain ⟨s, hs, h1, h2⟩ := has_mem.mp hx
  have := h.mem s hs; omega

theorem Rt.none {l : List Sp} {lo : Int} (h : Rt lo l) (hx : ∀ x, has l x = false) : l = [] := by
  cases l with
  | nil => rfl
  | cons s r =>
    have h1 := hx s.1
    have h2 : has (s :: r) s.1 = true := has_cons.mpr (.inl ⟨Int.le_refl _, h.2.1⟩)
    rw [h1] at h2; cases h2

/-- A span behind the others. -/
theorem Rt.snoc : ∀ {l : List Sp} {lo : Int} {s : Sp}, Rt lo (l ++ [s]) ↔ Rt lo l ∧ (∀ t ∈ l, t.2 < s.1) ∧ lo ≤ s.1 ∧ s.1 < s.2 ∧ s.2 ≤ 4611686018427387903
  | [], lo, s => by simp [Rt]
  | t :: r, lo, s => by
    simp only [List.cons_append, Rt, Rt.snoc (l := r), List.mem_cons, forall_eq_or_imp]
    constructor
    · rintro ⟨h1, h2, h3, h4, h5, h6, h7, h8⟩
      exact ⟨⟨h1, h2, h3, h4⟩, ⟨by omega, h5⟩, by omega, h7, h8⟩
    · rintro ⟨⟨h1, h2, h3, h4⟩, ⟨h5, h6⟩, h7, h8, h9⟩
      exact ⟨h1, h2, h3, h4, h6, by omega, h8, h9⟩

def IsSet (l : List Sp) : Prop := l.length ≤ 2000 ∧ Rt 0 l

/-- What a loop over the spans tells: at such a place all was right. -/
theorem Rt.cut {l : List Sp} {lo : Int} : ∀ {a : List Sp}, Rt lo (a ++ l) → Rt lo a
  | [], _ => trivial
  | _ :: _, h => ⟨h.1, h.2.1, h.2.2.1, h.2.2.2.cut⟩
theorem Rt.rest {l : List Sp} : ∀ {a : List Sp} {lo : Int}, Rt lo (a ++ l) → ∃ lo', lo ≤ lo' ∧ Rt lo' l
  | [], lo, h => ⟨lo, Int.le_refl _, h⟩
  | s :: a, lo, h => by
    obtain ⟨lo', h1, h2⟩ := h.2.2.2.rest
    exact ⟨lo', by have := h.1; have := h.2.1; omega, h2⟩
/-! How many bytes. -/
def siz : List Sp → Int
  | [] => 0
  | s :: r => (s.2 - s.1) + siz r
theorem siz_append (a b : List Sp) : siz (a ++ b) = siz a + siz b := by
  induction a with
  | nil => simp [siz]
  | cons s r ih => simp only [List.cons_append, siz, ih]; omega

def cnt (p : Int → Bool) : Nat → Nat
  | 0 => 0
  | n + 1 => cnt p n + (if p n then 1 else 0)
theorem siz_pos {l : List Sp} : ∀ {lo : Int}, Rt lo l → 0 ≤ siz l := by
  induction l with
  | nil => intro _ _; simp [siz]
  | cons s r ih => intro lo h; have := ih h.2.2.2; have := h.2.1; simp only [siz]; omega
theorem siz_most : ∀ {l : List Sp} {lo : Int}, Rt lo l → lo ≤ 4611686018427387904 → siz l ≤ 4611686018427387904 - lo
  | [], lo, _, h => by simp [siz]; omega
  | s :: r, lo, h, _ => by
    have := siz_most h.2.2.2 (by have := h.2.2.1; omega)
    have := h.1; have := h.2.1
    simp only [siz]; omega

/-! Two sets are put together. -/

/-- A span is put to spans of which none begins behind it. -/
def jo (l : List Sp) (s : Sp) : List Sp :=
  match l.getLast? with
  | none => l ++ [s]
  | some t => if t.2 < s.1 then l ++ [s] else l.dropLast ++ [(t.1, max t.2 s.2)]

theorem jo_nil (s : Sp) : jo [] s = [s] := rfl
theorem jo_far (l : List Sp) (t s : Sp) (h : t.2 < s.1) : jo (l ++ [t]) s = l ++ [t] ++ [s] := by
  simp [jo, h]
theorem jo_near (l : List Sp) (t s : Sp) (h : s.1 ≤ t.2) : jo (l ++ [t]) s = l ++ [(t.1, max t.2 s.2)] := by
  have : ¬ t.2 < s.1 := by omega
  simp [jo, this]

/-- What is out, and what is left of both. -/
structure Mg (a b out ra rb : List Sp) : Prop where
  rt : Rt 0 out
  all : ∀ x, (has out x || has ra x || has rb x) = (has a x || has b x)
  okA : Rt 0 ra
  okB : Rt 0 rb
  order : ∀ t ∈ out, (∀ s ∈ ra, t.1 ≤ s.1) ∧ ∀ s ∈ rb, t.1 ≤ s.1
  len : out.length + (ra.length + rb.length) ≤ a.length + b.length

theorem Mg.start {a b : List Sp} (ha : Rt 0 a) (hb : Rt 0 b) : Mg a b [] a b :=
  ⟨trivial, fun x => by simp [has], ha, hb, (fun _ h => by cases h), by simp⟩

theorem Rt.next {s : Sp} {r : List Sp} {lo : Int} (h : Rt lo (s :: r)) : ∀ t ∈ r, s.1 ≤ t.1 := fun t ht => by
  have := h.2.2.2.mem t ht; have := h.2.1; omega

theorem has_one (s : Sp) (x : Int) : has [s] x = inn s x := by simp [has]

theorem Mg.step {a b out ra rb : List Sp} {s : Sp} (h : Mg a b out (s :: ra) rb) (hf : ∀ t ∈ rb, s.1 ≤ t.1) : Mg a b (jo out s) ra rb := by
  obtain ⟨h1, h2, h3, h4, h5, h6⟩ := h
  have hra := h3.2.2.2.mono (lo' := 0) (by have := h3.1; have := h3.2.1; omega)
  have s0 := h3.1
  have s1 := h3.2.1
  have s2 := h3.2.2.1
  have hn := h3.next
  by_cases ho : out = []
  · subst ho
    rw [jo_nil]
    refine ⟨⟨s0, s1, s2, trivial⟩, fun x => ?_, hra, h4, ?_, by simp at h6 ⊢; omega⟩
    · rw [← h2 x]; simp [has]
    · intro t ht
      simp at ht; subst ht
      exact ⟨hn, hf⟩
  · obtain ⟨l, t, rfl⟩ : ∃ l t, out = l ++ [t] := ⟨out.dropLast, out.getLast ho, (List.dropLast_concat_getLast ho).symm⟩
    have ho := h5 t (by simp)
    have hts := ho.1 s (by simp)
    obtain ⟨g1, g2, g3, g4, g5⟩ := Rt.snoc.mp h1
    by_cases hl : t.2 < s.1
    · rw [jo_far _ _ _ hl]
      refine ⟨Rt.snoc.mpr ⟨h1, ?_, s0, s1, s2⟩, fun x => ?_, hra, h4, ?_, by simp at h6 ⊢; omega⟩
      · intro u hu
        rcases List.mem_append.mp hu with hu | hu
        · have := g2 u hu; omega
        · simp at hu; subst hu; exact hl
      · rw [← h2 x, has_append, has_one]; simp only [has]
        cases has (l ++ [t]) x <;> cases inn s x <;> simp
      · intro u hu
        rcases List.mem_append.mp hu with hu | hu
        · exact ⟨fun v hv => (h5 u hu).1 v (by simp [hv]), (h5 u hu).2⟩
        · simp at hu; subst hu; exact ⟨hn, hf⟩
    · rw [jo_near _ _ _ (by omega)]
      refine ⟨Rt.snoc.mpr ⟨g1, g2, g3, by simp; omega, by simp; omega⟩, fun x => ?_, hra, h4, ?_, by simp at h6 ⊢; omega⟩
      · rw [← h2 x, has_append, has_append, has_one, has_one]; simp only [has]
        have e : inn (t.1, max t.2 s.2) x = (inn t x || inn s x) := by
          apply Bool.eq_iff_iff.mpr
          simp only [inn_iff, Bool.or_eq_true]
          omega
        rw [e]
        cases has l x <;> cases inn s x <;> cases inn t x <;> simp
      · intro u hu
        rcases List.mem_append.mp hu with hu | hu
        · exact ⟨fun v hv => (h5 u (by simp [hu])).1 v (by simp [hv]), (h5 u (by simp [hu])).2⟩
        · simp at hu; subst hu; exact ⟨fun v hv => ho.1 v (by simp [hv]), ho.2⟩

/-- u is what is in one of both, or in both. -/
structure Uni (a b u : List Sp) : Prop where
  rt : Rt 0 u
  all : ∀ x, has u x = (has a x || has b x)
  len : u.length ≤ a.length + b.length
theorem Mg.done {a b out : List Sp} (h : Mg a b out [] []) : Uni a b out :=
  ⟨h.rt, fun x => by rw [← h.all x]; simp [has], by have := h.len; simp at this; omega⟩
end Go.Proofs.YtkkmoplijicmpaeDoor.C

namespace Go.Proofs.YtkkmoplijicmpaeDoor.C

/-- The pieces from p up to hi: those that are of the list, and those that are not. -/
def pc (hi : Int) : Int → List Sp → List (Sp × Bool)
  | p, [] => if p < hi then [((p, hi), false)] else []
  | p, x :: r => if min x.2 hi ≤ max x.1 p then pc hi p r else (if p < max x.1 p then [((p, max x.1 p), false)] else []) ++ ((max x.1 p, min x.2 hi), true) :: pc hi (min x.2 hi) r

def pick (b : Bool) : List (Sp × Bool) → List Sp
  | [] => []
  | s :: r => if s.2 = b then s.1 :: pick b r else pick b r
theorem pick_append (b : Bool) (l m : List (Sp × Bool)) : pick b (l ++ m) = pick b l ++ pick b m := by
  induction l with
  | nil => rfl
  | cons s r ih => simp only [List.cons_append, pick, ih]; split <;> simp

theorem pc_skip {hi p : Int} {x : Sp} {r : List Sp} (h : min x.2 hi ≤ max x.1 p) : pc hi p (x :: r) = pc hi p r := by rw [pc, if_pos h]
theorem pc_gap {hi p : Int} {x : Sp} {r : List Sp} (h : ¬ min x.2 hi ≤ max x.1 p) (hp : p < x.1) : pc hi p (x :: r) = ((p, x.1), false) :: ((x.1, min x.2 hi), true) :: pc hi (min x.2 hi) r := by
  rw [pc, if_neg h, if_pos (by omega), show max x.1 p = x.1 from by omega]; rfl
theorem pc_on {hi p : Int} {x : Sp} {r : List Sp} (h : ¬ min x.2 hi ≤ max x.1 p) (hp : x.1 ≤ p) : pc hi p (x :: r) = ((p, min x.2 hi), true) :: pc hi (min x.2 hi) r := by
  rw [pc, if_neg h, if_neg (by omega), show max x.1 p = p from by omega]; rfl
theorem pc_cases {hi p : Int} {x : Sp} {r : List Sp} {C : List (Sp × Bool) → Prop} (h1 : min x.2 hi ≤ max x.1 p → C (pc hi p r)) (h2 : ¬ min x.2 hi ≤ max x.1 p → p < x.1 → C (((p, x.1), false) :: ((x.1, min x.2 hi), true) :: pc hi (min x.2 hi) r)) (h3 : ¬ min x.2 hi ≤ max x.1 p → x.1 ≤ p → C (((p, min x.2 hi), true) :: pc hi (min x.2 hi) r)) : C (pc hi p (x :: r)) := by
  by_cases h : min x.2 hi ≤ max x.1 p
  · rw [pc_skip h]; exact h1 h
  · rcases Int.lt_or_le p x.1 with q | q
    · rw [pc_gap h q]; exact h2 h q
    · rw [pc_on h q]; exact h3 h q

theorem rt_true {hi : Int} (hm : hi ≤ 4611686018427387903) : ∀ {l : List Sp} {lo p : Int}, Rt lo l → Rt (max lo p) (pick true (pc hi p l))
  | [], lo, p, _ => by rw [pc]; split <;> exact trivial
  | x :: r, lo, p, h => by
    have g1 := h.1
    have g2 := h.2.1
    refine pc_cases (C := fun q => Rt (max lo p) (pick true q)) (fun q => ?_) (fun q q' => ?_) (fun q q' => ?_)
    · exact (rt_true hm h.2.2.2).mono (by omega)
    · simp only [pick]
      exact ⟨by show _ ≤ x.1; omega, by show x.1 < min x.2 hi; omega, by show min x.2 hi ≤ _; omega, (rt_true hm h.2.2.2).mono (by show min x.2 hi + 1 ≤ _; omega)⟩
    · simp only [pick]
      exact ⟨by show _ ≤ p; omega, by show p < min x.2 hi; omega, by show min x.2 hi ≤ _; omega, (rt_true hm h.2.2.2).mono (by show min x.2 hi + 1 ≤ _; omega)⟩

theorem len_true {hi : Int} : ∀ {l : List Sp} {p : Int}, (pick true (pc hi p l)).length ≤ l.length
  | [], p => by rw [pc]; split <;> simp [pick]
  | x :: r, p => by
    refine pc_cases (C := fun q => (pick true q).length ≤ (x :: r).length) (fun _ => ?_) (fun _ _ => ?_) (fun _ _ => ?_)
    · have := len_true (hi := hi) (l := r) (p := p); simp; omega
    · have := len_true (hi := hi) (l := r) (p := min x.2 hi); simp [pick]; omega
    · have := len_true (hi := hi) (l := r) (p := min x.2 hi); simp [pick]; omega
theorem len_pc {hi : Int} : ∀ {l : List Sp} {p : Int}, (pc hi p l).length ≤ 2 * l.length + 1
  | [], p => by rw [pc]; split <;> simp
  | x :: r, p => by
    refine pc_cases (C := fun q => q.length ≤ 2 * (x :: r).length + 1) (fun _ => ?_) (fun _ _ => ?_) (fun _ _ => ?_)
    · have := len_pc (hi := hi) (l := r) (p := p); simp; omega
    · have := len_pc (hi := hi) (l := r) (p := min x.2 hi); simp; omega
    · have := len_pc (hi := hi) (l := r) (p := min x.2 hi); simp; omega

/-- What both have; what a span has that a list has not. -/
def wth (l : List Sp) (s : Sp) : List Sp := pick true (pc s.2 s.1 l)
def gps (l : List Sp) (s : Sp) : List Sp := pick false (pc s.2 s.1 l)
def Asked (s : Sp) : Prop := 0 ≤ s.1 ∧ s.1 ≤ s.2 ∧ s.2 ≤ 4611686018427387903

/-- The span itself, as a set. -/
def one (s : Sp) : List Sp := if s.1 < s.2 then [s] else []
end Go.Proofs.YtkkmoplijicmpaeDoor.C
