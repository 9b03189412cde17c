import Derived.Lib.Small
namespace Go.Proofs.YtcfodcioeefbeaaDoor.C

abbrev Sp := Int × Int

/-- Spans that may be, in order, a gap between each two; none begins below lo. -/
def Rt : Int → List Sp → Prop
  | _, [] => True
  | lo, s :: r => lo ≤ s.1 ∧ s.1 < s.2 ∧ s.2 ≤ 4611686018427387903 ∧ Rt (s.2 + 1) r

/-- Is a byte one of a span's, of a list's? -/
def inn (s : Sp) (x : Int) : Bool := decide (s.1 ≤ x) && decide (x < s.2)
def has : List Sp → Int → Bool
  | [], _ => false
  | s :: r, x => inn s x || has r x

theorem inn_iff {s : Sp} {x : Int} : inn s x = true ↔ s.1 ≤ x ∧ x < s.2 := by simp [inn]
theorem has_cons {s : Sp} {r : List Sp} {x : Int} : has (s :: r) x = true ↔ (s.1 ≤ x ∧ x < s.2) ∨ has r x = true := by simp [has, inn]
theorem has_append (a b : List Sp) (x : Int) : has (a ++ b) x = (has a x || has b x) := by
  induction a with
  | nil => simp [has]
  | cons s r ih => simp [has, ih, Bool.or_assoc]
theorem has_mem {l : List Sp} {x : Int} : has l x = true ↔ ∃ s ∈ l, s.1 ≤ x ∧ x < s.2 := by
  induction l with
  | nil => simp [has]
  | cons s r ih => rw [has_cons, ih]; simp

theorem Rt.mono : ∀ {l : List Sp} {lo lo' : Int}, Rt lo l → lo' ≤ lo → Rt lo' l
  | [], _, _, _, _ => trivial
  | _ :: _, _, _, h, hl => ⟨by have := h.1; omega, h.2⟩
theorem Rt.mem : ∀ {l : List Sp} {lo : Int}, Rt lo l → ∀ s ∈ l, lo ≤ s.1 ∧ s.1 < s.2 ∧ s.2 ≤ 4611686018427387903
  | [], _, _, s, hs => by cases hs
  | t :: r, lo, h, s, hs => by
    obtain ⟨h1, h2, h3, h4⟩ := h
    rcases List.mem_cons.mp hs with rfl | hs
    · exact ⟨h1, h2, h3⟩
    · have := Rt.mem h4 s hs; omega
theorem Rt.low {l : List Sp} {lo : Int} (h : Rt lo l) {x : Int} (hx : has l x = true) : lo ≤ x ∧ x < 4611686018427387903 := by
  obtain ⟨s, hs, h1, h2⟩ := has_mem.mp hx
  have := h.mem s hs; omega

theorem Rt.none {l : List Sp} {lo : Int} (h : Rt lo l) (hx : ∀ x, has l x = false) : l = [] := by
  cases l with
  | nil => rfl
  | cons s r =>
    have h1 := hx s.1
    have h2 : has (s :: r) s.1 = true := has_cons.mpr (.inl ⟨Int.le_refl _, h.2.1⟩)
    rw [h1] at h2; cases h2

/-- Two sets with the same bytes are one list. -/
theorem Rt.uniq : ∀ {a b : List Sp} {la lb : Int}, Rt la a → Rt lb b → (∀ x, has a x = has b x) → a = b
  | [], b, _, _, _, hb, he => (hb.none (fun x => (he x).symm)).symm
  | s :: a, [], _, _, ha, _, he => ha.none (fun x => he x)
  | s :: a, t :: b, la, lb, ha, hb, he => by
    have hs : has (t :: b) s.1 = true := by rw [← he]; exact has_cons.mpr (.inl ⟨Int.le_refl _, ha.2.1⟩)
    have ht : has (s :: a) t.1 = true := by rw [he]; exact has_cons.mpr (.inl ⟨Int.le_refl _, hb.2.1⟩)
    have e1 : s.1 = t.1 := by
      have q1 : t.1 ≤ s.1 := by
        rcases has_cons.mp hs with h | h
        · exact h.1
        · have := hb.2.2.2.low h; have := hb.2.1; omega
      have q2 : s.1 ≤ t.1 := by
        rcases has_cons.mp ht with h | h
        · exact h.1
        · have := ha.2.2.2.low h; have := ha.2.1; omega
      omega
    have n1 : ¬ has (s :: a) s.2 = true := by
      intro h
      rcases has_cons.mp h with h | h
      · omega
      · have := ha.2.2.2.low h; omega
    have n2 : ¬ has (t :: b) t.2 = true := by
      intro h
      rcases has_cons.mp h with h | h
      · omega
      · have := hb.2.2.2.low h; omega
    have e2 : s.2 = t.2 := by
      rcases Int.lt_trichotomy s.2 t.2 with h | h | h
      · exact absurd (by rw [he]; exact has_cons.mpr (.inl ⟨by have := ha.2.1; omega, h⟩)) n1
      · exact h
      · exact absurd (by rw [← he]; exact has_cons.mpr (.inl ⟨by have := hb.2.1; omega, h⟩)) n2
    have e : s = t := Prod.ext e1 e2
    subst e
    congr 1
    refine Rt.uniq ha.2.2.2 hb.2.2.2 (fun x => ?_)
    have hx := he x
    simp only [has] at hx
    cases hi : inn s x with
    | false => simpa [hi] using hx
    | true =>
      have q := inn_iff.mp hi
      have z1 : has a x = false := by
        cases z : has a x with
        | false => rfl
        | true => have := ha.2.2.2.low z; omega
      have z2 : has b x = false := by
        cases z : has b x with
        | false => rfl
        | true => have := hb.2.2.2.low z; omega
      rw [z1, z2]

/-- A span behind the others. -/
theorem Rt.snoc : ∀ {l : List Sp} {lo : Int} {s : Sp}, Rt lo (l ++ [s]) ↔ Rt lo l ∧ (∀ t ∈ l, t.2 < s.1) ∧ lo ≤ s.1 ∧ s.1 < s.2 ∧ s.2 ≤ 4611686018427387903
  | [], lo, s => by simp [Rt]
  | t :: r, lo, s => by
    simp only [List.cons_append, Rt, Rt.snoc (l := r), List.mem_cons, forall_eq_or_imp]
    constructor
    · rintro ⟨h1, h2, h3, h4, h5, h6, h7, h8⟩
      exact ⟨⟨h1, h2, h3, h4⟩, ⟨by omega, h5⟩, by omega, h7, h8⟩
    · rintro ⟨⟨h1, h2, h3, h4⟩, ⟨h5, h6⟩, h7, h8, h9⟩
      exact ⟨h1, h2, h3, h4, h6, by omega, h8, h9⟩

def IsSet (l : List Sp) : Prop := l.length ≤ 2000 ∧ Rt 0 l

/-- What a loop over the spans tells: at such a place all was right. -/
theorem Rt.cut {l : List Sp} {lo : Int} : ∀ {a : List Sp}, Rt lo (a ++ l) → Rt lo a
  | [], _ => trivial
  | _ :: _, h => ⟨h.1, h.2.1, h.2.2.1, h.2.2.2.cut⟩
theorem Rt.rest {l : List Sp} : ∀ {a : List Sp} {lo : Int}, Rt lo (a ++ l) → ∃ lo', lo ≤ lo' ∧ Rt lo' l
  | [], lo, h => ⟨lo, Int.le_refl _, h⟩
  | s :: a, lo, h => by
    obtain ⟨lo', h1, h2⟩ := h.2.2.2.rest
    exact ⟨lo', by have := h.1; have := h.2.1; omega, h2⟩
theorem Rt.dropped {l : List Sp} {lo : Int} (h : Rt lo l) (n : Nat) : Rt lo (l.drop n) := by
  obtain ⟨lo', h1, h2⟩ := Rt.rest (l := l.drop n) (a := l.take n) (lo := lo) (by rw [List.take_append_drop]; exact h)
  exact h2.mono h1

/-! How many bytes. -/
def siz : List Sp → Int
  | [] => 0
  | s :: r => (s.2 - s.1) + siz r
theorem siz_append (a b : List Sp) : siz (a ++ b) = siz a + siz b := by
  induction a with
  | nil => simp [siz]
  | cons s r ih => simp only [List.cons_append, siz, ih]; omega

def cnt (p : Int → Bool) : Nat → Nat
  | 0 => 0
  | n + 1 => cnt p n + (if p n then 1 else 0)
theorem cnt_congr {p q : Int → Bool} (h : ∀ x, p x = q x) (n : Nat) : cnt p n = cnt q n := by
  induction n with
  | zero => rfl
  | succ n ih => simp only [cnt, ih, h]
theorem cnt_or {p q : Int → Bool} (h : ∀ x, ¬ (p x = true ∧ q x = true)) (n : Nat) : cnt (fun x => p x || q x) n = cnt p n + cnt q n := by
  induction n with
  | zero => rfl
  | succ n ih =>
    have hn := h n
    simp only [cnt, ih, Bool.or_eq_true]
    by_cases hp : p n = true <;> by_cases hq : q n = true
    · exact absurd ⟨hp, hq⟩ hn
    all_goals simp [hp, hq]; try omega
theorem cnt_le {p q r : Int → Bool} (h : ∀ x, p x = true → q x = true ∨ r x = true) (n : Nat) : cnt p n ≤ cnt q n + cnt r n := by
  induction n with
  | zero => simp [cnt]
  | succ n ih =>
    have hn := h n
    simp only [cnt]
    by_cases hp : p n = true <;> by_cases hq : q n = true <;> by_cases hr : r n = true <;> simp [hp, hq, hr] at hn ⊢ <;> omega
theorem cnt_false (n : Nat) : cnt (fun _ => false) n = 0 := by
  induction n with
  | zero => rfl
  | succ n ih => simp [cnt, ih]
theorem cnt_inn (s : Sp) (h0 : 0 ≤ s.1) (h1 : s.1 ≤ s.2) (n : Nat) : cnt (inn s) n = min s.2.toNat n - s.1.toNat := by
  induction n with
  | zero => simp [cnt]
  | succ n ih =>
    simp only [cnt, ih]
    cases hi : inn s n with
    | true => have := inn_iff.mp hi; simp; omega
    | false =>
      have : ¬ (s.1 ≤ n ∧ (n : Int) < s.2) := fun q => by rw [inn_iff.mpr q] at hi; cases hi
      simp; omega
theorem siz_cnt : ∀ {l : List Sp} {lo : Int} (_ : Rt lo l) (_ : 0 ≤ lo) (n : Nat) (_ : ∀ s ∈ l, s.2 ≤ n), siz l = cnt (has l) n
  | [], _, _, _, n, _ => by
    rw [show cnt (has []) n = 0 from (cnt_congr (fun _ => rfl) n).trans (cnt_false n)]; rfl
  | s :: r, lo, h, h0, n, hn => by
    have h1 := h.1
    have h2 := h.2.1
    have hs := hn s (by simp)
    have ih := siz_cnt h.2.2.2 (by omega) n (fun t ht => hn t (by simp [ht]))
    have e : cnt (has (s :: r)) n = cnt (inn s) n + cnt (has r) n := by
      rw [← cnt_or (fun x hx => ?_) n]
      · exact cnt_congr (fun _ => rfl) n
      · have q1 := inn_iff.mp hx.1
        have q2 := h.2.2.2.low hx.2
        omega
    rw [e, cnt_inn s (by omega) (by omega), siz, ih]
    have : min s.2.toNat n - s.1.toNat = s.2.toNat - s.1.toNat := by omega
    rw [this]; omega

/-- Sizes add up where the bytes do. -/
theorem siz_add {a b c : List Sp} (ha : Rt 0 a) (hb : Rt 0 b) (hc : Rt 0 c) (h : ∀ x, has c x = (has a x || has b x)) (hd : ∀ x, ¬ (has a x = true ∧ has b x = true)) : siz c = siz a + siz b := by
  have hN : ∃ N : Nat, (4611686018427387903 : Int) ≤ N := ⟨4611686018427387903, by omega⟩
  obtain ⟨N, hN⟩ := hN
  rw [siz_cnt ha (Int.le_refl _) N (fun s hs => by have := ha.mem s hs; omega), siz_cnt hb (Int.le_refl _) N (fun s hs => by have := hb.mem s hs; omega), siz_cnt hc (Int.le_refl _) N (fun s hs => by have := hc.mem s hs; omega)]
  rw [cnt_congr h N, cnt_or hd N]; omega
theorem siz_le {a b c : List Sp} (ha : Rt 0 a) (hb : Rt 0 b) (hc : Rt 0 c) (h : ∀ x, has c x = true → has a x = true ∨ has b x = true) : siz c ≤ siz a + siz b := by
  have hN : ∃ N : Nat, (4611686018427387903 : Int) ≤ N := ⟨4611686018427387903, by omega⟩
  obtain ⟨N, hN⟩ := hN
  rw [siz_cnt ha (Int.le_refl _) N (fun s hs => by have := ha.mem s hs; omega), siz_cnt hb (Int.le_refl _) N (fun s hs => by have := hb.mem s hs; omega), siz_cnt hc (Int.le_refl _) N (fun s hs => by have := hc.mem s hs; omega)]
  have := cnt_le h N; omega
theorem siz_pos {l : List Sp} : ∀ {lo : Int}, Rt lo l → 0 ≤ siz l := by
  induction l with
  | nil => intro _ _; simp [siz]
  | cons s r ih => intro lo h; have := ih h.2.2.2; have := h.2.1; simp only [siz]; omega
theorem siz_most : ∀ {l : List Sp} {lo : Int}, Rt lo l → lo ≤ 4611686018427387904 → siz l ≤ 4611686018427387904 - lo
  | [], lo, _, h => by simp [siz]; omega
  | s :: r, lo, h, _ => by
    have := siz_most h.2.2.2 (by have := h.2.2.1; omega)
    have := h.1; have := h.2.1
    simp only [siz]; omega

/-! Two sets are put together. -/

/-- A span is put to spans of which none begins behind it. -/
def jo (l : List Sp) (s : Sp) : List Sp :=
  match l.getLast? with
  | none => l ++ [s]
  | some t => if t.2 < s.1 then l ++ [s] else l.dropLast ++ [(t.1, max t.2 s.2)]

theorem jo_nil (s : Sp) : jo [] s = [s] := rfl
theorem jo_far (l : List Sp) (t s : Sp) (h : t.2 < s.1) : jo (l ++ [t]) s = l ++ [t] ++ [s] := by
  simp [jo, h]
theorem jo_near (l : List Sp) (t s : Sp) (h : s.1 ≤ t.2) : jo (l ++ [t]) s = l ++ [(t.1, max t.2 s.2)] := by
  have : ¬ t.2 < s.1 := by omega
  simp [jo, this]

/-- What is out, and what is left of both. -/
structure Mg (a b out ra rb : List Sp) : Prop where
  rt : Rt 0 out
  all : ∀ x, (has out x || has ra x || has rb x) = (has a x || has b x)
  okA : Rt 0 ra
  okB : Rt 0 rb
  order : ∀ t ∈ out, (∀ s ∈ ra, t.1 ≤ s.1) ∧ ∀ s ∈ rb, t.1 ≤ s.1
  len : out.length + (ra.length + rb.length) ≤ a.length + b.length

theorem Mg.swap {a b out ra rb : List Sp} (h : Mg a b out ra rb) : Mg a b out rb ra :=
  ⟨h.rt, fun x => by rw [← h.all x]; cases has out x <;> cases has ra x <;> cases has rb x <;> rfl, h.okB, h.okA, fun t ht => (h.order t ht).symm, by have := h.len; omega⟩
theorem Mg.start {a b : List Sp} (ha : Rt 0 a) (hb : Rt 0 b) : Mg a b [] a b :=
  ⟨trivial, fun x => by simp [has], ha, hb, (fun _ h => by cases h), by simp⟩

theorem Rt.next {s : Sp} {r : List Sp} {lo : Int} (h : Rt lo (s :: r)) : ∀ t ∈ r, s.1 ≤ t.1 := fun t ht => by
  have := h.2.2.2.mem t ht; have := h.2.1; omega

theorem has_one (s : Sp) (x : Int) : has [s] x = inn s x := by simp [has]

theorem Mg.step {a b out ra rb : List Sp} {s : Sp} (h : Mg a b out (s :: ra) rb) (hf : ∀ t ∈ rb, s.1 ≤ t.1) : Mg a b (jo out s) ra rb := by
  obtain ⟨h1, h2, h3, h4, h5, h6⟩ := h
  have hra := h3.2.2.2.mono (lo' := 0) (by have := h3.1; have := h3.2.1; omega)
  have s0 := h3.1
  have s1 := h3.2.1
  have s2 := h3.2.2.1
  have hn := h3.next
  by_cases ho : out = []
  · subst ho
    rw [jo_nil]
    refine ⟨⟨s0, s1, s2, trivial⟩, fun x => ?_, hra, h4, ?_, by simp at h6 ⊢; omega⟩
    · rw [← h2 x]; simp [has]
    · intro t ht
      simp at ht; subst ht
      exact ⟨hn, hf⟩
  · obtain ⟨l, t, rfl⟩ : ∃ l t, out = l ++ [t] := ⟨out.dropLast, out.getLast ho, (List.dropLast_concat_getLast ho).symm⟩
    have ho := h5 t (by simp)
    have hts := ho.1 s (by simp)
    obtain ⟨g1, g2, g3, g4, g5⟩ := Rt.snoc.mp h1
    by_cases hl : t.2 < s.1
    · rw [jo_far _ _ _ hl]
      refine ⟨Rt.snoc.mpr ⟨h1, ?_, s0, s1, s2⟩, fun x => ?_, hra, h4, ?_, by simp at h6 ⊢; omega⟩
      · intro u hu
        rcases List.mem_append.mp hu with hu | hu
        · have := g2 u hu; omega
        · simp at hu; subst hu; exact hl
      · rw [← h2 x, has_append, has_one]; simp only [has]
        cases has (l ++ [t]) x <;> cases inn s x <;> simp
      · intro u hu
        rcases List.mem_append.mp hu with hu | hu
        · exact ⟨fun v hv => (h5 u hu).1 v (by simp [hv]), (h5 u hu).2⟩
        · simp at hu; subst hu; exact ⟨hn, hf⟩
    · rw [jo_near _ _ _ (by omega)]
      refine ⟨Rt.snoc.mpr ⟨g1, g2, g3, by simp; omega, by simp; omega⟩, fun x => ?_, hra, h4, ?_, by simp at h6 ⊢; omega⟩
      · rw [← h2 x, has_append, has_append, has_one, has_one]; simp only [has]
        have e : inn (t.1, max t.2 s.2) x = (inn t x || inn s x) := by
          apply Bool.eq_iff_iff.mpr
          simp only [inn_iff, Bool.or_eq_true]
          omega
        rw [e]
        cases has l x <;> cases inn s x <;> cases inn t x <;> simp
      · intro u hu
        rcases List.mem_append.mp hu with hu | hu
        · exact ⟨fun v hv => (h5 u (by simp [hu])).1 v (by simp [hv]), (h5 u (by simp [hu])).2⟩
        · simp at hu; subst hu; exact ⟨fun v hv => ho.1 v (by simp [hv]), ho.2⟩

/-- u is what is in one of both, or in both. -/
structure Uni (a b u : List Sp) : Prop where
  rt : Rt 0 u
  all : ∀ x, has u x = (has a x || has b x)
  len : u.length ≤ a.length + b.length
theorem Mg.done {a b out : List Sp} (h : Mg a b out [] []) : Uni a b out :=
  ⟨h.rt, fun x => by rw [← h.all x]; simp [has], by have := h.len; simp at this; omega⟩
theorem Uni.uniq {a b u v : List Sp} (h : Uni a b u) (h' : Uni a b v) : u = v := h.rt.uniq h'.rt (fun x => by rw [h.all, h'.all])
theorem Uni.swap {a b u : List Sp} (h : Uni a b u) : Uni b a u := ⟨h.rt, fun x => by rw [h.all, Bool.or_comm], by have := h.len; omega⟩

end Go.Proofs.YtcfodcioeefbeaaDoor.C

namespace Go.Proofs.YtcfodcioeefbeaaDoor.C

/-- The pieces from p up to hi: those that are of the list, and those that are not. -/
def pc (hi : Int) : Int → List Sp → List (Sp × Bool)
  | p, [] => if p < hi then [((p, hi), false)] else []
  | p, x :: r => if min x.2 hi ≤ max x.1 p then pc hi p r else (if p < max x.1 p then [((p, max x.1 p), false)] else []) ++ ((max x.1 p, min x.2 hi), true) :: pc hi (min x.2 hi) r

def pick (b : Bool) : List (Sp × Bool) → List Sp
  | [] => []
  | s :: r => if s.2 = b then s.1 :: pick b r else pick b r
theorem pick_append (b : Bool) (l m : List (Sp × Bool)) : pick b (l ++ m) = pick b l ++ pick b m := by
  induction l with
  | nil => rfl
  | cons s r ih => simp only [List.cons_append, pick, ih]; split <;> simp

theorem pc_skip {hi p : Int} {x : Sp} {r : List Sp} (h : min x.2 hi ≤ max x.1 p) : pc hi p (x :: r) = pc hi p r := by rw [pc, if_pos h]
theorem pc_gap {hi p : Int} {x : Sp} {r : List Sp} (h : ¬ min x.2 hi ≤ max x.1 p) (hp : p < x.1) : pc hi p (x :: r) = ((p, x.1), false) :: ((x.1, min x.2 hi), true) :: pc hi (min x.2 hi) r := by
  rw [pc, if_neg h, if_pos (by omega), show max x.1 p = x.1 from by omega]; rfl
theorem pc_on {hi p : Int} {x : Sp} {r : List Sp} (h : ¬ min x.2 hi ≤ max x.1 p) (hp : x.1 ≤ p) : pc hi p (x :: r) = ((p, min x.2 hi), true) :: pc hi (min x.2 hi) r := by
  rw [pc, if_neg h, if_neg (by omega), show max x.1 p = p from by omega]; rfl
theorem pc_over {hi : Int} : ∀ {l : List Sp} {p : Int}, hi ≤ p → pc hi p l = []
  | [], p, h => by rw [pc, if_neg (by omega)]
  | x :: r, p, h => by rw [pc_skip (by omega)]; exact pc_over h

theorem pc_cases {hi p : Int} {x : Sp} {r : List Sp} {C : List (Sp × Bool) → Prop} (h1 : min x.2 hi ≤ max x.1 p → C (pc hi p r)) (h2 : ¬ min x.2 hi ≤ max x.1 p → p < x.1 → C (((p, x.1), false) :: ((x.1, min x.2 hi), true) :: pc hi (min x.2 hi) r)) (h3 : ¬ min x.2 hi ≤ max x.1 p → x.1 ≤ p → C (((p, min x.2 hi), true) :: pc hi (min x.2 hi) r)) : C (pc hi p (x :: r)) := by
  by_cases h : min x.2 hi ≤ max x.1 p
  · rw [pc_skip h]; exact h1 h
  · rcases Int.lt_or_le p x.1 with q | q
    · rw [pc_gap h q]; exact h2 h q
    · rw [pc_on h q]; exact h3 h q

theorem rt_true {hi : Int} (hm : hi ≤ 4611686018427387903) : ∀ {l : List Sp} {lo p : Int}, Rt lo l → Rt (max lo p) (pick true (pc hi p l))
  | [], lo, p, _ => by rw [pc]; split <;> exact trivial
  | x :: r, lo, p, h => by
    have g1 := h.1
    have g2 := h.2.1
    refine pc_cases (C := fun q => Rt (max lo p) (pick true q)) (fun q => ?_) (fun q q' => ?_) (fun q q' => ?_)
    · exact (rt_true hm h.2.2.2).mono (by omega)
    · simp only [pick]
      exact ⟨by show _ ≤ x.1; omega, by show x.1 < min x.2 hi; omega, by show min x.2 hi ≤ _; omega, (rt_true hm h.2.2.2).mono (by show min x.2 hi + 1 ≤ _; omega)⟩
    · simp only [pick]
      exact ⟨by show _ ≤ p; omega, by show p < min x.2 hi; omega, by show min x.2 hi ≤ _; omega, (rt_true hm h.2.2.2).mono (by show min x.2 hi + 1 ≤ _; omega)⟩

theorem rt_false {hi : Int} (hm : hi ≤ 4611686018427387903) : ∀ {l : List Sp} {lo p : Int}, Rt lo l → Rt p (pick false (pc hi p l))
  | [], lo, p, _ => by
    rw [pc]; split
    · exact ⟨Int.le_refl _, by assumption, hm, trivial⟩
    · exact trivial
  | x :: r, lo, p, h => by
    have g1 := h.1
    have g2 := h.2.1
    refine pc_cases (C := fun q => Rt p (pick false q)) (fun q => ?_) (fun q q' => ?_) (fun q q' => ?_)
    · exact rt_false hm h.2.2.2
    · simp only [pick]
      exact ⟨Int.le_refl _, q', by show x.1 ≤ _; omega, (rt_false hm h.2.2.2).mono (by show x.1 + 1 ≤ _; omega)⟩
    · simp only [pick]
      exact (rt_false hm h.2.2.2).mono (by omega)

theorem has_out {l : List Sp} {lo x : Int} (h : Rt lo l) (hx : x < lo) : has l x = false := by
  cases q : has l x with
  | false => rfl
  | true => have := h.low q; omega

theorem inn_eq {s : Sp} {x : Int} {b : Bool} (h : b = true ↔ s.1 ≤ x ∧ x < s.2) : inn s x = b := Bool.eq_iff_iff.mpr (inn_iff.trans h.symm)

theorem inn_off {s : Sp} {x : Int} : inn s x = false ↔ ¬ (s.1 ≤ x ∧ x < s.2) := by rw [← Bool.not_eq_true, inn_iff]

theorem has_true {hi : Int} : ∀ {l : List Sp} {lo p : Int}, Rt lo l → ∀ y, has (pick true (pc hi p l)) y = (inn (p, hi) y && has l y)
  | [], lo, p, _, y => by rw [pc]; split <;> simp [pick, has]
  | x :: r, lo, p, h, y => by
    have g2 := h.2.1
    have hb : has r y = true → x.2 + 1 ≤ y := fun q => (h.2.2.2.low q).1
    refine pc_cases (C := fun q => has (pick true q) y = (inn (p, hi) y && has (x :: r) y)) (fun q => ?_) (fun q q' => ?_) (fun q q' => ?_)
    · rw [has_true h.2.2.2 y]
      apply Bool.eq_iff_iff.mpr
      simp only [has, Bool.and_eq_true, Bool.or_eq_true, inn_iff]
      constructor
      · rintro ⟨a, b⟩; exact ⟨a, .inr b⟩
      · rintro ⟨a, b | b⟩
        · omega
        · exact ⟨a, b⟩
    · simp only [pick, has, reduceCtorEq, if_false, if_true]
      rw [has_true h.2.2.2 y]
      apply Bool.eq_iff_iff.mpr
      simp only [Bool.and_eq_true, Bool.or_eq_true, inn_iff]
      constructor
      · rintro (a | ⟨a, b⟩)
        · exact ⟨by omega, .inl (by omega)⟩
        · exact ⟨by omega, .inr b⟩
      · rintro ⟨a, b | b⟩
        · exact .inl (by omega)
        · exact .inr ⟨by have := hb b; omega, b⟩
    · simp only [pick, has, if_true]
      rw [has_true h.2.2.2 y]
      apply Bool.eq_iff_iff.mpr
      simp only [Bool.and_eq_true, Bool.or_eq_true, inn_iff]
      constructor
      · rintro (a | ⟨a, b⟩)
        · exact ⟨by omega, .inl (by omega)⟩
        · exact ⟨by omega, .inr b⟩
      · rintro ⟨a, b | b⟩
        · exact .inl (by omega)
        · exact .inr ⟨by have := hb b; omega, b⟩

theorem has_false {hi : Int} : ∀ {l : List Sp} {lo p : Int}, Rt lo l → ∀ y, has (pick false (pc hi p l)) y = (inn (p, hi) y && !has l y)
  | [], lo, p, _, y => by
    rw [pc]; split
    · simp [pick, has]
    · have : inn (p, hi) y = false := inn_eq (by simp; omega)
      simp [pick, has, this]
  | x :: r, lo, p, h, y => by
    have g2 := h.2.1
    refine pc_cases (C := fun q => has (pick false q) y = (inn (p, hi) y && !has (x :: r) y)) (fun q => ?_) (fun q q' => ?_) (fun q q' => ?_)
    · rw [has_false h.2.2.2 y]
      apply Bool.eq_iff_iff.mpr
      simp only [has, Bool.and_eq_true, Bool.not_eq_true', Bool.or_eq_false_iff, inn_iff, inn_off]
      constructor
      · rintro ⟨a, b⟩; exact ⟨a, by omega, b⟩
      · rintro ⟨a, b, c⟩; exact ⟨a, c⟩
    · simp only [pick, has, reduceCtorEq, if_false, if_true]
      rw [has_false h.2.2.2 y]
      apply Bool.eq_iff_iff.mpr
      simp only [Bool.and_eq_true, Bool.or_eq_true, Bool.not_eq_true', Bool.or_eq_false_iff, inn_iff, inn_off]
      constructor
      · rintro (a | ⟨a, b⟩)
        · exact ⟨by omega, by omega, has_out h.2.2.2 (by omega)⟩
        · exact ⟨by omega, by omega, b⟩
      · rintro ⟨a, b, c⟩
        rcases Int.lt_or_le y x.1 with d | d
        · exact .inl (by omega)
        · exact .inr ⟨by omega, c⟩
    · simp only [pick, has, reduceCtorEq, if_false]
      rw [has_false h.2.2.2 y]
      apply Bool.eq_iff_iff.mpr
      simp only [Bool.and_eq_true, Bool.not_eq_true', Bool.or_eq_false_iff, inn_iff, inn_off]
      constructor
      · rintro ⟨a, b⟩
        exact ⟨by omega, by omega, b⟩
      · rintro ⟨a, b, c⟩
        exact ⟨by omega, c⟩

theorem len_true {hi : Int} : ∀ {l : List Sp} {p : Int}, (pick true (pc hi p l)).length ≤ l.length
  | [], p => by rw [pc]; split <;> simp [pick]
  | x :: r, p => by
    refine pc_cases (C := fun q => (pick true q).length ≤ (x :: r).length) (fun _ => ?_) (fun _ _ => ?_) (fun _ _ => ?_)
    · have := len_true (hi := hi) (l := r) (p := p); simp; omega
    · have := len_true (hi := hi) (l := r) (p := min x.2 hi); simp [pick]; omega
    · have := len_true (hi := hi) (l := r) (p := min x.2 hi); simp [pick]; omega
theorem len_false {hi : Int} : ∀ {l : List Sp} {p : Int}, (pick false (pc hi p l)).length ≤ l.length + 1
  | [], p => by rw [pc]; split <;> simp [pick]
  | x :: r, p => by
    refine pc_cases (C := fun q => (pick false q).length ≤ (x :: r).length + 1) (fun _ => ?_) (fun _ _ => ?_) (fun _ _ => ?_)
    · have := len_false (hi := hi) (l := r) (p := p); simp; omega
    · have := len_false (hi := hi) (l := r) (p := min x.2 hi); simp [pick]; omega
    · have := len_false (hi := hi) (l := r) (p := min x.2 hi); simp [pick]; omega
theorem len_pc {hi : Int} : ∀ {l : List Sp} {p : Int}, (pc hi p l).length ≤ 2 * l.length + 1
  | [], p => by rw [pc]; split <;> simp
  | x :: r, p => by
    refine pc_cases (C := fun q => q.length ≤ 2 * (x :: r).length + 1) (fun _ => ?_) (fun _ _ => ?_) (fun _ _ => ?_)
    · have := len_pc (hi := hi) (l := r) (p := p); simp; omega
    · have := len_pc (hi := hi) (l := r) (p := min x.2 hi); simp; omega
    · have := len_pc (hi := hi) (l := r) (p := min x.2 hi); simp; omega

/-- What both have; what a span has that a list has not. -/
def wth (l : List Sp) (s : Sp) : List Sp := pick true (pc s.2 s.1 l)
def gps (l : List Sp) (s : Sp) : List Sp := pick false (pc s.2 s.1 l)
def Asked (s : Sp) : Prop := 0 ≤ s.1 ∧ s.1 ≤ s.2 ∧ s.2 ≤ 4611686018427387903

theorem wth_rt {l : List Sp} {s : Sp} (h : Rt 0 l) (ha : Asked s) : Rt 0 (wth l s) := (rt_true ha.2.2 h).mono (by have := ha.1; omega)
theorem gps_rt {l : List Sp} {s : Sp} (h : Rt 0 l) (ha : Asked s) : Rt 0 (gps l s) := (rt_false ha.2.2 h).mono ha.1
theorem wth_has {l : List Sp} {s : Sp} (h : Rt 0 l) (y : Int) : has (wth l s) y = (inn s y && has l y) := has_true h y
theorem gps_has {l : List Sp} {s : Sp} (h : Rt 0 l) (y : Int) : has (gps l s) y = (inn s y && !has l y) := has_false h y

/-- The span itself, as a set. -/
def one (s : Sp) : List Sp := if s.1 < s.2 then [s] else []
theorem one_rt {s : Sp} (ha : Asked s) : Rt 0 (one s) := by
  unfold one; split
  · exact ⟨ha.1, by assumption, ha.2.2, trivial⟩
  · exact trivial
theorem one_has (s : Sp) (y : Int) : has (one s) y = inn s y := by
  unfold one; split
  · simp [has]
  · rw [has]; exact (inn_eq (by simp; omega)).symm
theorem one_siz {s : Sp} (ha : Asked s) : siz (one s) = s.2 - s.1 := by
  unfold one; split
  · simp [siz]
  · have := ha.2.1; simp [siz]; omega

theorem sum_math {l : List Sp} {s : Sp} (h : Rt 0 l) (ha : Asked s) : siz (wth l s) + siz (gps l s) = s.2 - s.1 := by
  rw [← one_siz ha, siz_add (wth_rt h ha) (gps_rt h ha) (one_rt ha)]
  · intro x; rw [one_has, wth_has h, gps_has h]; cases inn s x <;> cases has l x <;> rfl
  · intro x; rw [wth_has h, gps_has h]; cases inn s x <;> cases has l x <;> simp
theorem both_math {l u : List Sp} {s : Sp} (h : Rt 0 l) (ha : Asked s) (hu : Uni (wth l s) (gps l s) u) : u = one s :=
  hu.rt.uniq (one_rt ha) (fun x => by rw [hu.all, one_has, wth_has h, gps_has h]; cases inn s x <;> cases has l x <;> rfl)
theorem back_math3 {l : List Sp} {s : Sp} (h : Rt 0 l) (ha : Asked s) : gps (gps l s) s = wth l s :=
  (gps_rt (gps_rt h ha) ha).uniq (wth_rt h ha) (fun x => by rw [gps_has (gps_rt h ha), gps_has h, wth_has h]; cases inn s x <;> cases has l x <;> rfl)
theorem new_math {l u : List Sp} {s : Sp} (h : Rt 0 l) (ha : Asked s) (hu : Uni l [s] u) : siz u = siz l + siz (gps l s) :=
  siz_add h (gps_rt h ha) hu.rt (fun x => by rw [hu.all, gps_has h, has_one]; cases inn s x <;> cases has l x <;> rfl) (fun x => by rw [gps_has h]; cases inn s x <;> cases has l x <;> simp)
theorem cover_math {l : List Sp} {s : Sp} (h : Rt 0 l) (ha : Asked s) (hc : ∀ x, inn s x = true → has l x = true) : gps l s = [] :=
  (gps_rt h ha).none (fun x => by
    rw [gps_has h]
    cases q : inn s x with
    | false => rfl
    | true => rw [hc x q]; rfl)

end Go.Proofs.YtcfodcioeefbeaaDoor.C
