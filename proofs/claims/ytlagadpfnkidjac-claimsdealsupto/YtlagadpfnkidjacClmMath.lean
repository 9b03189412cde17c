import Derived.Lib.Small
namespace Go.Proofs.Ytlagadpfnkidjac

abbrev Sp := Int × Int

/-- Spans that may be, in order, a gap between each two; none begins below lo. -/
def Rt : Int → List Sp → Prop
  | _, [] => True
  | lo, s :: r => lo ≤ s.1 ∧ s.1 < s.2 ∧ s.2 ≤ 4611686018427387903 ∧ Rt (s.2 + 1) r

/-- Is a byte one of a span's, of a list's? -/
def inn (s : Sp) (x : Int) : Bool := decide (s.1 ≤ x) && decide (x < s.2)
def has : List Sp → Int → Bool
  | [], _ => false
  | s :: r, x => inn s x || has r x

theorem inn_iff {s : Sp} {x : Int} : inn s x = true ↔ s.1 ≤ x ∧ x < s.2 := by simp [inn]
theorem has_cons {s : Sp} {r : List Sp} {x : Int} : has (s :: r) x = true ↔ (s.1 ≤ x ∧ x < s.2) ∨ has r x = true := by simp [has, inn]
theorem has_append (a b : List Sp) (x : Int) : has (a ++ b) x = (has a x || has b x) := by
  induction a with
  | nil => simp [has]
  | cons s r ih => simp [has, ih, Bool.or_assoc]
theorem has_mem {l : List Sp} {x : Int} : has l x = true ↔ ∃ s ∈ l, s.1 ≤ x ∧ x < s.2 := by
  induction l with
  | nil => simp [has]
  | cons s r ih => rw [has_cons, ih]; simp

theorem Rt.mono : ∀ {l : List Sp} {lo lo' : Int}, Rt lo l → lo' ≤ lo → Rt lo' l
  | [], _, _, _, _ => trivial
  | _ :: _, _, _, h, hl => ⟨by have := h.1; omega, h.2⟩
theorem Rt.mem : ∀ {l : List Sp} {lo : Int}, Rt lo l → ∀ s ∈ l, lo ≤ s.1 ∧ s.1 < s.2 ∧ s.2 ≤ 4611686018427387903
  | [], _, _, s, hs => by cases hs
  | t :: r, lo, h, s, hs => by
    obtain ⟨h1, h2, h3, h4⟩ := h
    rcases List.mem_cons.mp hs with rfl | hs
    · exact ⟨h1, h2, h3⟩
    · have := Rt.mem h4 s hs; omega
theorem Rt.low {l : List Sp} {lo : Int} (h : Rt lo l) {x : Int} (hx : has l x = true) : lo ≤ x ∧ x < 4611686018427387903 := by
  obtain ⟨s, hs, h1, h2⟩ := has_mem.mp hx
  have := h.mem s hs; omega

theorem Rt.none {l : List Sp} {lo : Int} (h : Rt lo l) (hx : ∀ x, has l x = false) : l = [] := by
  cases l with
  | nil => rfl
  | cons s r =>
    have h1 := hx s.1
    have h2 : has (s :: r) s.1 = true := has_cons.mpr (.inl ⟨Int.le_refl _, h.2.1⟩)
    rw [h1] at h2; cases h2

/-- Two sets with the same bytes are one list. -/
theorem Rt.uniq : ∀ {a b : List Sp} {la lb : Int}, Rt la a → Rt lb b → (∀ x, has a x = has b x) → a = b
  | [], b, _, _, _, hb, he => (hb.none (fun x => (he x).symm)).symm
  | s :: a, [], _, _, ha, _, he => ha.none (fun x => he x)
  | s :: a, t :: b, la, lb, ha, hb, he => by
    have hs : has (t :: b) s.1 = true := by rw [← he]; exact has_cons.mpr (.inl ⟨Int.le_refl _, ha.2.1⟩)
    have ht : has (s :: a) t.1 = true := by rw [he]; exact has_cons.mpr (.inl ⟨Int.le_refl _, hb.2.1⟩)
    have e1 : s.1 = t.1 := by
      have q1 : t.1 ≤ s.1 := by
        rcases has_cons.mp hs with h | h
        · exact h.1
        · have := hb.2.2.2.low h; have := hb.2.1; omega
      have q2 : s.1 ≤ t.1 := by
        rcases has_cons.mp ht with h | h
        · exact h.1
        · have := ha.2.2.2.low h; have := ha.2.1; omega
      omega
    have n1 : ¬ has (s :: a) s.2 = true := by
      intro h
      rcases has_cons.mp h with h | h
      · omega
      · have := ha.2.2.2.low h; omega
    have n2 : ¬ has (t :: b) t.2 = true := by
      intro h
      rcases has_cons.mp h with h | h
      · omega
      · have := hb.2.2.2.low h; omega
    have e2 : s.2 = t.2 := by
      rcases Int.lt_trichotomy s.2 t.2 with h | h | h
      · exact absurd (by rw [he]; exact has_cons.mpr (.inl ⟨by have := ha.2.1; omega, h⟩)) n1
      · exact h
      · exact absurd (by rw [← he]; exact has_cons.mpr (.inl ⟨by have := hb.2.1; omega, h⟩)) n2
    have e : s = t := Prod.ext e1 e2
    subst e
    congr 1
    refine Rt.uniq ha.2.2.2 hb.2.2.2 (fun x => ?_)
    have hx := he x
    simp only [has] at hx
    cases hi : inn s x with
    | false => simpa [hi] using hx
    | true =>
      have q := inn_iff.mp hi
      have z1 : has a x = false := by
        cases z : has a x with
        | false => rfl
        | true => have := ha.2.2.2.low z; omega
      have z2 : has b x = false := by
        cases z : has b x with
        | false => rfl
        | true => have := hb.2.2.2.low z; omega
      rw [z1, z2]

/-- A span behind the others. -/
theorem Rt.snoc : ∀ {l : List Sp} {lo : Int} {s : Sp}, Rt lo (l ++ [s]) ↔ Rt lo l ∧ (∀ t ∈ l, t.2 < s.1) ∧ lo ≤ s.1 ∧ s.1 < s.2 ∧ s.2 ≤ 4611686018427387903
  | [], lo, s => by simp [Rt]
  | t :: r, lo, s => by
    simp only [List.cons_append, Rt, Rt.snoc (l := r), List.mem_cons, forall_eq_or_imp]
    constructor
    · rintro ⟨h1, h2, h3, h4, h5, h6, h7, h8⟩
      exact ⟨⟨h1, h2, h3, h4⟩, ⟨by omega, h5⟩, by omega, h7, h8⟩
    · rintro ⟨⟨h1, h2, h3, h4⟩, ⟨h5, h6⟩, h7, h8, h9⟩
      exact ⟨h1, h2, h3, h4, h6, by omega, h8, h9⟩

def IsSet (l : List Sp) : Prop := l.length ≤ 2000 ∧ Rt 0 l

/-- What a loop over the spans tells: at such a place all was right. -/
theorem Rt.cut {l : List Sp} {lo : Int} : ∀ {a : List Sp}, Rt lo (a ++ l) → Rt lo a
  | [], _ => trivial
  | _ :: _, h => ⟨h.1, h.2.1, h.2.2.1, h.2.2.2.cut⟩
theorem Rt.rest {l : List Sp} : ∀ {a : List Sp} {lo : Int}, Rt lo (a ++ l) → ∃ lo', lo ≤ lo' ∧ Rt lo' l
  | [], lo, h => ⟨lo, Int.le_refl _, h⟩
  | s :: a, lo, h => by
    obtain ⟨lo', h1, h2⟩ := h.2.2.2.rest
    exact ⟨lo', by have := h.1; have := h.2.1; omega, h2⟩
theorem Rt.dropped {l : List Sp} {lo : Int} (h : Rt lo l) (n : Nat) : Rt lo (l.drop n) := by
  obtain ⟨lo', h1, h2⟩ := Rt.rest (l := l.drop n) (a := l.take n) (lo := lo) (by rw [List.take_append_drop]; exact h)
  exact h2.mono h1

/-! How many bytes. -/
def siz : List Sp → Int
  | [] => 0
  | s :: r => (s.2 - s.1) + siz r
theorem siz_append (a b : List Sp) : siz (a ++ b) = siz a + siz b := by
  induction a with
  | nil => simp [siz]
  | cons s r ih => simp only [List.cons_append, siz, ih]; omega

def cnt (p : Int → Bool) : Nat → Nat
  | 0 => 0
  | n + 1 => cnt p n + (if p n then 1 else 0)
theorem cnt_congr {p q : Int → Bool} (h : ∀ x, p x = q x) (n : Nat) : cnt p n = cnt q n := by
  induction n with
  | zero => rfl
  | succ n ih => simp only [cnt, ih, h]
theorem cnt_or {p q : Int → Bool} (h : ∀ x, ¬ (p x = true ∧ q x = true)) (n : Nat) : cnt (fun x => p x || q x) n = cnt p n + cnt q n := by
  induction n with
  | zero => rfl
  | succ n ih =>
    have hn := h n
    simp only [cnt, ih, Bool.or_eq_true]
    by_cases hp : p n = true <;> by_cases hq : q n = true
    · exact absurd ⟨hp, hq⟩ hn
    all_goals simp [hp, hq]; try omega
theorem cnt_le {p q r : Int → Bool} (h : ∀ x, p x = true → q x = true ∨ r x = true) (n : Nat) : cnt p n ≤ cnt q n + cnt r n := by
  induction n with
  | zero => simp [cnt]
  | succ n ih =>
    have hn := h n
    simp only [cnt]
    by_cases hp : p n = true <;> by_cases hq : q n = true <;> by_cases hr : r n = true <;> simp [hp, hq, hr] at hn ⊢ <;> omega
theorem cnt_false (n : Nat) : cnt (fun _ => false) n = 0 := by
  induction n with
  | zero => rfl
  | succ n ih => simp [cnt, ih]
theorem cnt_inn (s : Sp) (h0 : 0 ≤ s.1) (h1 : s.1 ≤ s.2) (n : Nat) : cnt (inn s) n = min s.2.toNat n - s.1.toNat := by
  induction n with
  | zero => simp [cnt]
  | succ n ih =>
    simp only [cnt, ih]
    cases hi : inn s n with
    | true => have := inn_iff.mp hi; simp; omega
    | false =>
      have : ¬ (s.1 ≤ n ∧ (n : Int) < s.2) := fun q => by rw [inn_iff.mpr q] at hi; cases hi
      simp; omega
theorem siz_cnt : ∀ {l : List Sp} {lo : Int} (_ : Rt lo l) (_ : 0 ≤ lo) (n : Nat) (_ : ∀ s ∈ l, s.2 ≤ n), siz l = cnt (has l) n
  | [], _, _, _, n, _ => by
    rw [show cnt (has []) n = 0 from (cnt_congr (fun _ => rfl) n).trans (cnt_false n)]; rfl
  | s :: r, lo, h, h0, n, hn => by
    have h1 := h.1
    have h2 := h.2.1
    have hs := hn s (by simp)
    have ih := siz_cnt h.2.2.2 (by omega) n (fun t ht => hn t (by simp [ht]))
    have e : cnt (has (s :: r)) n = cnt (inn s) n + cnt (has r) n := by
      rw [← cnt_or (fun x hx => ?_) n]
      · exact cnt_congr (fun _ => rfl) n
      · have q1 := inn_iff.mp hx.1
        have q2 := h.2.2.2.low hx.2
        omega
    rw [e, cnt_inn s (by omega) (by omega), siz, ih]
    have : min s.2.toNat n - s.1.toNat = s.2.toNat - s.1.toNat := by omega
    rw [this]; omega

/-- Sizes add up where the bytes do. -/
theorem siz_add {a b c : List Sp} (ha : Rt 0 a) (hb : Rt 0 b) (hc : Rt 0 c) (h : ∀ x, has c x = (has a x || has b x)) (hd : ∀ x, ¬ (has a x = true ∧ has b x = true)) : siz c = siz a + siz b := by
  have hN : ∃ N : Nat, (4611686018427387903 : Int) ≤ N := ⟨4611686018427387903, by omega⟩
  obtain ⟨N, hN⟩ := hN
  rw [siz_cnt ha (Int.le_refl _) N (fun s hs => by have := ha.mem s hs; omega), siz_cnt hb (Int.le_refl _) N (fun s hs => by have := hb.mem s hs; omega), siz_cnt hc (Int.le_refl _) N (fun s hs => by have := hc.mem s hs; omega)]
  rw [cnt_congr h N, cnt_or hd N]; omega
theorem siz_le {a b c : List Sp} (ha : Rt 0 a) (hb : Rt 0 b) (hc : Rt 0 c) (h : ∀ x, has c x = true → has a x = true ∨ has b x = true) : siz c ≤ siz a + siz b := by
  have hN : ∃ N : Nat, (4611686018427387903 : Int) ≤ N := ⟨4611686018427387903, by omega⟩
  obtain ⟨N, hN⟩ := hN
  rw [siz_cnt ha (Int.le_refl _) N (fun s hs => by have := ha.mem s hs; omega), siz_cnt hb (Int.le_refl _) N (fun s hs => by have := hb.mem s hs; omega), siz_cnt hc (Int.le_refl _) N (fun s hs => by have := hc.mem s hs; omega)]
  have := cnt_le h N; omega
theorem siz_pos {l : List Sp} : ∀ {lo : Int}, Rt lo l → 0 ≤ siz l := by
  induction l with
  | nil => intro _ _; simp [siz]
  | cons s r ih => intro lo h; have := ih h.2.2.2; have := h.2.1; simp only [siz]; omega
theorem siz_most : ∀ {l : List Sp} {lo : Int}, Rt lo l → lo ≤ 4611686018427387904 → siz l ≤ 4611686018427387904 - lo
  | [], lo, _, h => by simp [siz]; omega
  | s :: r, lo, h, _ => by
    have := siz_most h.2.2.2 (by have := h.2.2.1; omega)
    have := h.1; have := h.2.1
    simp only [siz]; omega

/-! Two sets are put together. -/

/-- A span is put to spans of which none begins behind it. -/
def jo (l : List Sp) (s : Sp) : List Sp :=
  match l.getLast? with
  | none => l ++ [s]
  | some t => if t.2 < s.1 then l ++ [s] else l.dropLast ++ [(t.1, max t.2 s.2)]

theorem jo_nil (s : Sp) : jo [] s = [s] := rfl
theorem jo_far (l : List Sp) (t s : Sp) (h : t.2 < s.1) : jo (l ++ [t]) s = l ++ [t] ++ [s] := by
  simp [jo, h]
theorem jo_near (l : List Sp) (t s : Sp) (h : s.1 ≤ t.2) : jo (l ++ [t]) s = l ++ [(t.1, max t.2 s.2)] := by
  have : ¬ t.2 < s.1 := by omega
  simp [jo, this]

/-- What is out, and what is left of both. -/
structure Mg (a b out ra rb : List Sp) : Prop where
  rt : Rt 0 out
  all : ∀ x, (has out x || has ra x || has rb x) = (has a x || has b x)
  okA : Rt 0 ra
  okB : Rt 0 rb
  order : ∀ t ∈ out, (∀ s ∈ ra, t.1 ≤ s.1) ∧ ∀ s ∈ rb, t.1 ≤ s.1
  len : out.length + (ra.length + rb.length) ≤ a.length + b.length

theorem Mg.swap {a b out ra rb : List Sp} (h : Mg a b out ra rb) : Mg a b out rb ra :=
  ⟨h.rt, fun x => by rw [← h.all x]; cases has out x <;> cases has ra x <;> cases has rb x <;> rfl, h.okB, h.okA, fun t ht => (h.order t ht).symm, by have := h.len; omega⟩
theorem Mg.start {a b : List Sp} (ha : Rt 0 a) (hb : Rt 0 b) : Mg a b [] a b :=
  ⟨trivial, fun x => by simp [has], ha, hb, (fun _ h => by cases h), by simp⟩

theorem Rt.next {s : Sp} {r : List Sp} {lo : Int} (h : Rt lo (s :: r)) : ∀ t ∈ r, s.1 ≤ t.1 := fun t ht => by
  have := h.2.2.2.mem t ht; have := h.2.1; omega

theorem has_one (s : Sp) (x : Int) : has [s] x = inn s x := by simp [has]

theorem Mg.step {a b out ra rb : List Sp} {s : Sp} (h : Mg a b out (s :: ra) rb) (hf : ∀ t ∈ rb, s.1 ≤ t.1) : Mg a b (jo out s) ra rb := by
  obtain ⟨h1, h2, h3, h4, h5, h6⟩ := h
  have hra := h3.2.2.2.mono (lo' := 0) (by have := h3.1; have := h3.2.1; omega)
  have s0 := h3.1
  have s1 := h3.2.1
  have s2 := h3.2.2.1
  have hn := h3.next
  by_cases ho : out = []
  · subst ho
    rw [jo_nil]
    refine ⟨⟨s0, s1, s2, trivial⟩, fun x => ?_, hra, h4, ?_, by simp at h6 ⊢; omega⟩
    · rw [← h2 x]; simp [has]
    · intro t ht
      simp at ht; subst ht
      exact ⟨hn, hf⟩
  · obtain ⟨l, t, rfl⟩ : ∃ l t, out = l ++ [t] := ⟨out.dropLast, out.getLast ho, (List.dropLast_concat_getLast ho).symm⟩
    have ho := h5 t (by simp)
    have hts := ho.1 s (by simp)
    obtain ⟨g1, g2, g3, g4, g5⟩ := Rt.snoc.mp h1
    by_cases hl : t.2 < s.1
    · rw [jo_far _ _ _ hl]
      refine ⟨Rt.snoc.mpr ⟨h1, ?_, s0, s1, s2⟩, fun x => ?_, hra, h4, ?_, by simp at h6 ⊢; omega⟩
      · intro u hu
        rcases List.mem_append.mp hu with hu | hu
        · have := g2 u hu; omega
        · simp at hu; subst hu; exact hl
      · rw [← h2 x, has_append, has_one]; simp only [has]
        cases has (l ++ [t]) x <;> cases inn s x <;> simp
      · intro u hu
        rcases List.mem_append.mp hu with hu | hu
        · exact ⟨fun v hv => (h5 u hu).1 v (by simp [hv]), (h5 u hu).2⟩
        · simp at hu; subst hu; exact ⟨hn, hf⟩
    · rw [jo_near _ _ _ (by omega)]
      refine ⟨Rt.snoc.mpr ⟨g1, g2, g3, by simp; omega, by simp; omega⟩, fun x => ?_, hra, h4, ?_, by simp at h6 ⊢; omega⟩
      · rw [← h2 x, has_append, has_append, has_one, has_one]; simp only [has]
        have e : inn (t.1, max t.2 s.2) x = (inn t x || inn s x) := by
          apply Bool.eq_iff_iff.mpr
          simp only [inn_iff, Bool.or_eq_true]
          omega
        rw [e]
        cases has l x <;> cases inn s x <;> cases inn t x <;> simp
      · intro u hu
        rcases List.mem_append.mp hu with hu | hu
        · exact ⟨fun v hv => (h5 u (by simp [hu])).1 v (by simp [hv]), (h5 u (by simp [hu])).2⟩
        · simp at hu; subst hu; exact ⟨fun v hv => ho.1 v (by simp [hv]), ho.2⟩

/-- u is what is in one of both, or in both. -/
structure Uni (a b u : List Sp) : Prop where
  rt : Rt 0 u
  all : ∀ x, has u x = (has a x || has b x)
  len : u.length ≤ a.length + b.length
theorem Mg.done {a b out : List Sp} (h : Mg a b out [] []) : Uni a b out :=
  ⟨h.rt, fun x => by rw [← h.all x]; simp [has], by have := h.len; simp at this; omega⟩
theorem Uni.uniq {a b u v : List Sp} (h : Uni a b u) (h' : Uni a b v) : u = v := h.rt.uniq h'.rt (fun x => by rw [h.all, h'.all])
theorem Uni.swap {a b u : List Sp} (h : Uni a b u) : Uni b a u := ⟨h.rt, fun x => by rw [h.all, Bool.or_comm], by have := h.len; omega⟩

end Go.Proofs.Ytlagadpfnkidjac
