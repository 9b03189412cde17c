import Derived.Test.YtjolflpmeodnaaiChecked
namespace Go.Proofs.Ytjolflpmeodnaai
set_option linter.unusedVariables false

/-! ## Plans: numbers alone -/

/-- A contact: peer, from, to, rate. -/
structure Ct where
  p : Int
  f : Int
  t : Int
  r : Int

def mayC (c : Ct) : Bool := decide (1 ≤ c.p) && decide (c.p ≤ 4611686018427387903) && (decide (0 ≤ c.f) && decide (c.f < c.t) && decide (c.t ≤ 1099511627776)) && (decide (1 ≤ c.r) && decide (c.r ≤ 1000))
theorem mayC_iff {c : Ct} : mayC c = true ↔ 1 ≤ c.p ∧ c.p ≤ 4611686018427387903 ∧ 0 ≤ c.f ∧ c.f < c.t ∧ c.t ≤ 1099511627776 ∧ 1 ≤ c.r ∧ c.r ≤ 1000 := by
  simp only [mayC, Bool.and_eq_true, decide_eq_true_eq]
  constructor
  · rintro ⟨⟨⟨a, b⟩, ⟨c, d⟩, e⟩, f, g⟩; exact ⟨a, b, c, d, e, f, g⟩
  · rintro ⟨a, b, c, d, e, f, g⟩; exact ⟨⟨⟨a, b⟩, ⟨c, d⟩, e⟩, f, g⟩

def one (p x : Int) (c : Ct) : Int := if c.p = p ∧ c.f ≤ x ∧ x < c.t then c.r else 0
def rt (p x : Int) : List Ct → Int
  | [] => 0
  | c :: l => one p x c + rt p x l
def ov (c : Ct) (a b : Int) : Int := max 0 (min c.t b - max c.f a)
def pt (p a b : Int) (c : Ct) : Int := if c.p = p then ov c a b * c.r else 0
def tot (p a b : Int) : List Ct → Int
  | [] => 0
  | c :: l => pt p a b c + tot p a b l

def rightE (l : List Ct) : Int := if 100 < l.length then 2 else if l.all mayC then (if l.any (fun c => decide (1000 < rt c.p c.f l)) then 90 else 0) else 90

theorem rightE_ok {l : List Ct} : rightE l = 0 ↔ l.length ≤ 100 ∧ (∀ c ∈ l, mayC c = true) ∧ ∀ c ∈ l, rt c.p c.f l ≤ 1000 := by
  unfold rightE
  split
  · next h => exact ⟨fun h => by simp at h, fun h => by omega⟩
  · next h =>
    split
    · next h2 =>
      split
      · next h3 =>
        refine ⟨fun h => by simp at h, fun ⟨_, _, h4⟩ => ?_⟩
        obtain ⟨c, hc, h5⟩ := List.any_eq_true.mp h3
        have := h4 c hc
        have := of_decide_eq_true h5
        omega
      · next h3 =>
        refine ⟨fun _ => ⟨by omega, fun c hc => List.all_eq_true.mp h2 c hc, fun c hc => ?_⟩, fun _ => rfl⟩
        have h6 : ¬ (1000 < rt c.p c.f l) := fun h7 => h3 (List.any_eq_true.mpr ⟨c, hc, decide_eq_true h7⟩)
        omega
    · next h2 =>
      refine ⟨fun h => by simp at h, fun ⟨_, h4, _⟩ => ?_⟩
      exact absurd (List.all_eq_true.mpr h4) h2

theorem one_nn {p x : Int} {c : Ct} (h : mayC c = true) : 0 ≤ one p x c ∧ one p x c ≤ 1000 := by
  have := mayC_iff.mp h
  unfold one; split <;> omega
theorem rt_bnd {p x : Int} : ∀ {l : List Ct}, (∀ c ∈ l, mayC c = true) → 0 ≤ rt p x l ∧ rt p x l ≤ 1000 * l.length
  | [], _ => by simp [rt]
  | c :: l, h => by
    have h1 := one_nn (p := p) (x := x) (h c (by simp))
    have h2 := rt_bnd (p := p) (x := x) (l := l) (fun d hd => h d (by simp [hd]))
    simp only [rt, List.length_cons]; omega

theorem pt_add {p a b d : Int} (c : Ct) (h1 : a ≤ b) (h2 : b ≤ d) : pt p a b c + pt p b d c = pt p a d c := by
  unfold pt
  split
  · rw [← Int.add_mul]; congr 1; unfold ov; omega
  · rfl
theorem tot_add {p a b d : Int} (h1 : a ≤ b) (h2 : b ≤ d) : ∀ l : List Ct, tot p a b l + tot p b d l = tot p a d l
  | [] => rfl
  | c :: l => by have h3 := pt_add (p := p) c h1 h2; have h4 := tot_add (p := p) h1 h2 l; simp only [tot]; omega
theorem tot_self (p a : Int) (l : List Ct) : tot p a a l = 0 := by
  have := tot_add (p := p) (Int.le_refl a) (Int.le_refl a) l; omega

theorem pt_nn {p a b : Int} {c : Ct} (h : mayC c = true) (h0 : 0 ≤ a) (hab : a ≤ b) (hb : b ≤ 1099511627776) : 0 ≤ pt p a b c ∧ pt p a b c ≤ 1099511627776000 := by
  have h' := mayC_iff.mp h
  unfold pt
  split
  · have h1 : 0 ≤ ov c a b ∧ ov c a b ≤ 1099511627776 := by unfold ov; omega
    refine ⟨Int.mul_nonneg h1.1 (by omega), ?_⟩
    calc ov c a b * c.r ≤ 1099511627776 * c.r := Int.mul_le_mul_of_nonneg_right h1.2 (by omega)
      _ ≤ 1099511627776 * 1000 := Int.mul_le_mul_of_nonneg_left (by omega) (by omega)
  · omega
theorem tot_bnd {p a b : Int} (h0 : 0 ≤ a) (hab : a ≤ b) (hb : b ≤ 1099511627776) : ∀ {l : List Ct}, (∀ c ∈ l, mayC c = true) → 0 ≤ tot p a b l ∧ tot p a b l ≤ 1099511627776000 * l.length
  | [], _ => by simp [tot]
  | c :: l, h => by
    have h1 := pt_nn (p := p) (h c (by simp)) h0 hab hb
    have h2 := tot_bnd (p := p) h0 hab hb (l := l) (fun d hd => h d (by simp [hd]))
    simp only [tot, List.length_cons]; omega

/-- No edge of a contact of the peer lies between. -/
def Calm (p a b : Int) (l : List Ct) : Prop := ∀ c ∈ l, c.p = p → ¬ (a < c.f ∧ c.f < b) ∧ ¬ (a < c.t ∧ c.t < b)

theorem one_same {p a b x : Int} {c : Ct} (h : c.p = p → ¬ (a < c.f ∧ c.f < b) ∧ ¬ (a < c.t ∧ c.t < b)) (h1 : a ≤ x) (h2 : x < b) : one p x c = one p a c := by
  unfold one
  by_cases hp : c.p = p
  · have := h hp
    simp only [hp, true_and]
    by_cases h3 : c.f ≤ x ∧ x < c.t
    · rw [if_pos h3, if_pos (by omega)]
    · rw [if_neg h3, if_neg (by omega)]
  · simp [hp]
theorem rt_same {p a b x : Int} : ∀ {l : List Ct}, Calm p a b l → a ≤ x → x < b → rt p x l = rt p a l
  | [], _, _, _ => rfl
  | c :: l, h, h1, h2 => by
    simp only [rt]
    rw [one_same (h c (by simp)) h1 h2, rt_same (l := l) (fun d hd => h d (by simp [hd])) h1 h2]
theorem pt_same {p a b : Int} {c : Ct} (hm : mayC c = true) (h : c.p = p → ¬ (a < c.f ∧ c.f < b) ∧ ¬ (a < c.t ∧ c.t < b)) (h1 : a ≤ b) : pt p a b c = one p a c * (b - a) := by
  have hm' := mayC_iff.mp hm
  unfold pt one
  by_cases hp : c.p = p
  · have := h hp
    simp only [hp, true_and, if_true]
    by_cases h3 : c.f ≤ a ∧ a < c.t
    · rw [if_pos h3]
      have : ov c a b = b - a := by unfold ov; omega
      rw [this, Int.mul_comm]
    · rw [if_neg h3]
      have : ov c a b = 0 := by unfold ov; omega
      rw [this]; simp
  · simp [hp]
theorem tot_same {p a b : Int} (h1 : a ≤ b) : ∀ {l : List Ct}, (∀ c ∈ l, mayC c = true) → Calm p a b l → tot p a b l = rt p a l * (b - a)
  | [], _, _ => by simp [tot, rt]
  | c :: l, hm, h => by
    simp only [tot, rt]
    rw [pt_same (hm c (by simp)) (h c (by simp)) h1, tot_same h1 (l := l) (fun d hd => hm d (by simp [hd])) (fun d hd => h d (by simp [hd])), ← Int.add_mul]
theorem Calm.one (p x : Int) (l : List Ct) : Calm p x (x + 1) l := fun _ _ _ => ⟨by omega, by omega⟩
theorem tot_one {p x : Int} {l : List Ct} (hm : ∀ c ∈ l, mayC c = true) : tot p x (x + 1) l = rt p x l := by
  rw [tot_same (by omega) hm (Calm.one p x l)]
  have : x + 1 - x = 1 := by omega
  rw [this, Int.mul_one]
theorem Calm.sub {p a b x y : Int} {l : List Ct} (h : Calm p a b l) (h1 : a ≤ x) (h2 : y ≤ b) : Calm p x y l := fun c hc hp => by
  have := h c hc hp; omega

/-! ## What is answered -/

def cn (x : Int) : Int := min (max x 0) 1099511627776

/-- What Next answers, at a tick that counts. -/
def NR (p a : Int) (l : List Ct) (n : Int) : Prop :=
  (n = -1 ∧ ∀ x, a ≤ x → x ≤ 1099511627776 → rt p x l = rt p a l) ∨ (a < n ∧ n ≤ 1099511627776 ∧ rt p n l ≠ rt p a l ∧ ∀ x, a ≤ x → x < n → rt p x l = rt p a l)
theorem NR.uniq {p a n m : Int} {l : List Ct} (h : NR p a l n) (h' : NR p a l m) : n = m := by
  rcases h with ⟨rfl, h⟩ | ⟨h1, h2, h3, h4⟩ <;> rcases h' with ⟨rfl, h'⟩ | ⟨h1', h2', h3', h4'⟩
  · rfl
  · exact absurd (h m (by omega) h2') h3'
  · exact absurd (h' n (by omega) h2) h3
  · rcases Int.lt_trichotomy n m with h5 | h5 | h5
    · exact absurd (h4' n (by omega) h5) h3
    · exact h5
    · exact absurd (h4 m (by omega) h5) h3'

/-- What When answers, from a tick that counts, of one or more. -/
def WR (p a m : Int) (l : List Ct) (t : Int) : Prop :=
  (t = -1 ∧ tot p a 1099511627776 l < m) ∨ (a ≤ t ∧ t < 1099511627776 ∧ tot p a t l < m ∧ m ≤ tot p a (t + 1) l)
theorem tot_mono {p a b d : Int} {l : List Ct} (hm : ∀ c ∈ l, mayC c = true) (h0 : 0 ≤ a) (h1 : a ≤ b) (h2 : b ≤ d) (h3 : d ≤ 1099511627776) : tot p a b l ≤ tot p a d l := by
  have h4 := tot_add (p := p) h1 h2 l
  have h5 := (tot_bnd (p := p) (show 0 ≤ b by omega) h2 h3 hm).1
  omega
theorem WR.uniq {p a m t s : Int} {l : List Ct} (hm : ∀ c ∈ l, mayC c = true) (h0 : 0 ≤ a) (h : WR p a m l t) (h' : WR p a m l s) : t = s := by
  rcases h with ⟨rfl, h⟩ | ⟨h1, h2, h3, h4⟩ <;> rcases h' with ⟨rfl, h'⟩ | ⟨h1', h2', h3', h4'⟩
  · rfl
  · have := tot_mono (p := p) hm h0 (show a ≤ s + 1 by omega) (show s + 1 ≤ 1099511627776 by omega) (Int.le_refl _); omega
  · have := tot_mono (p := p) hm h0 (show a ≤ t + 1 by omega) (show t + 1 ≤ 1099511627776 by omega) (Int.le_refl _); omega
  · rcases Int.lt_trichotomy t s with h5 | h5 | h5
    · have := tot_mono (p := p) hm h0 (show a ≤ t + 1 by omega) (show t + 1 ≤ s by omega) (by omega); omega
    · exact h5
    · have := tot_mono (p := p) hm h0 (show a ≤ s + 1 by omega) (show s + 1 ≤ t by omega) (by omega); omega

/-! ## Marks -/

structure MK (p a b : Int) (l : List Ct) (M : List Int) : Prop where
  sorted : M.Pairwise (· ≤ ·)
  ha : a ∈ M
  hb : b ∈ M
  rng : ∀ x ∈ M, a ≤ x ∧ x ≤ b
  edge : ∀ c ∈ l, c.p = p → min (max c.f a) b ∈ M ∧ min (max c.t a) b ∈ M

theorem le_of_idx {M : List Int} (h : M.Pairwise (· ≤ ·)) {i j : Nat} {x y : Int} (hi : M[i]? = some x) (hj : M[j]? = some y) (hij : i ≤ j) : x ≤ y := by
  obtain ⟨hi', rfl⟩ := List.getElem?_eq_some_iff.mp hi
  obtain ⟨hj', rfl⟩ := List.getElem?_eq_some_iff.mp hj
  rcases Nat.lt_or_ge i j with h1 | h1
  · exact List.pairwise_iff_getElem.mp h i j hi' hj' h1
  · obtain rfl : i = j := by omega
    exact Int.le_refl _

theorem MK.first {p a b : Int} {l : List Ct} {M : List Int} (h : MK p a b l M) : M[0]? = some a := by
  obtain ⟨j, hj⟩ := List.getElem?_of_mem h.ha
  have hl : 0 < M.length := by have := (List.getElem?_eq_some_iff.mp hj).1; omega
  have h0 : M[0]? = some M[0] := List.getElem?_eq_getElem hl
  rw [h0]
  have h1 := le_of_idx h.sorted h0 hj (Nat.zero_le _)
  have h2 := (h.rng M[0] (List.getElem_mem hl)).1
  congr 1; omega
theorem MK.last {p a b : Int} {l : List Ct} {M : List Int} (h : MK p a b l M) {k : Nat} (hk : k + 1 = M.length) : M[k]? = some b := by
  obtain ⟨j, hj⟩ := List.getElem?_of_mem h.hb
  have hl := (List.getElem?_eq_some_iff.mp hj).1
  have hk' : k < M.length := by omega
  have h0 : M[k]? = some M[k] := List.getElem?_eq_getElem hk'
  rw [h0]
  have h1 := le_of_idx h.sorted hj h0 (by omega)
  have h2 := (h.rng M[k] (List.getElem_mem hk')).2
  congr 1; omega
theorem MK.step {p a b : Int} {l : List Ct} {M : List Int} (h : MK p a b l M) {i : Nat} {x y : Int} (hi : M[i]? = some x) (hj : M[i + 1]? = some y) : a ≤ x ∧ x ≤ y ∧ y ≤ b ∧ Calm p x y l := by
  have hx := h.rng x (List.mem_of_getElem? hi)
  have hy := h.rng y (List.mem_of_getElem? hj)
  refine ⟨hx.1, le_of_idx h.sorted hi hj (by omega), hy.2, fun c hc hp => ?_⟩
  have key : ∀ z : Int, min (max z a) b ∈ M → ¬ (x < z ∧ z < y) := by
    intro z hz ⟨h1, h2⟩
    have e : min (max z a) b = z := by omega
    rw [e] at hz
    obtain ⟨j, hj'⟩ := List.getElem?_of_mem hz
    rcases Nat.lt_or_ge i j with h3 | h3
    · have := le_of_idx h.sorted hj hj' (by omega); omega
    · have := le_of_idx h.sorted hj' hi (by omega); omega
  exact ⟨key _ (h.edge c hc hp).1, key _ (h.edge c hc hp).2⟩
/-- Up to a mark the rates are those at the marks. -/
theorem MK.upto {p a b : Int} {l : List Ct} {M : List Int} (h : MK p a b l M) {R : Int} : ∀ {i : Nat} {y : Int}, M[i]? = some y → (∀ j z, j < i → M[j]? = some z → rt p z l = R) → ∀ x, a ≤ x → x < y → rt p x l = R
  | 0, y, hy, _, x, h1, h2 => by
    rw [h.first] at hy; cases hy; omega
  | i + 1, y, hy, hR, x, h1, h2 => by
    have hi : i < M.length := by have := (List.getElem?_eq_some_iff.mp hy).1; omega
    have hz : M[i]? = some M[i] := List.getElem?_eq_getElem hi
    have hs := h.step hz hy
    rcases Int.lt_or_le x M[i] with h3 | h3
    · exact h.upto hz (fun j z hj hz' => hR j z (by omega) hz') x h1 h3
    · rw [rt_same hs.2.2.2 h3 h2]
      exact hR i M[i] (by omega) hz

theorem MK.next_some {p a : Int} {l : List Ct} {M : List Int} (h : MK p a 1099511627776 l M) {i : Nat} {y : Int} (hy : M[i]? = some y) (hR : ∀ j z, j < i → M[j]? = some z → rt p z l = rt p a l) (hne : rt p y l ≠ rt p a l) : NR p a l y := by
  have hr := h.rng y (List.mem_of_getElem? hy)
  refine .inr ⟨?_, hr.2, hne, h.upto hy hR⟩
  rcases Int.lt_or_le a y with h1 | h1
  · exact h1
  · have : y = a := by omega
    rw [this] at hne; exact absurd rfl hne
theorem MK.next_none {p a : Int} {l : List Ct} {M : List Int} (h : MK p a 1099511627776 l M) (hR : ∀ j z, j < M.length → M[j]? = some z → rt p z l = rt p a l) : NR p a l (-1) := by
  refine .inl ⟨rfl, fun x h1 h2 => ?_⟩
  have hl : 0 < M.length := (List.getElem?_eq_some_iff.mp h.first).1
  have hb := h.last (k := M.length - 1) (by omega)
  rcases Int.lt_or_le x 1099511627776 with h3 | h3
  · exact h.upto hb (fun j z hj hz => hR j z (by omega) hz) x h1 h3
  · obtain rfl : x = 1099511627776 := by omega
    exact hR _ _ (by omega) hb

theorem MK.total {p a b : Int} {l : List Ct} {M : List Int} (h : MK p a b l M) (hm : ∀ c ∈ l, mayC c = true) {i : Nat} {x y : Int} (hi : M[i]? = some x) (hj : M[i + 1]? = some y) : tot p a x l + rt p x l * (y - x) = tot p a y l := by
  have hs := h.step hi hj
  rw [← tot_same hs.2.1 hm hs.2.2.2]
  exact tot_add hs.1 hs.2.1 l

theorem MK.when {p a m : Int} {l : List Ct} {M : List Int} (h : MK p a 1099511627776 l M) (hm : ∀ c ∈ l, mayC c = true) {i : Nat} {x y : Int} (hi : M[i]? = some x) (hj : M[i + 1]? = some y)
    (h1 : tot p a x l < m) (h2 : m - tot p a x l ≤ rt p x l * (y - x)) : 0 < rt p x l ∧ WR p a m l (x + (m - tot p a x l - 1) / rt p x l) := by
  have hs := h.step hi hj
  have hr := (rt_bnd (p := p) (x := x) hm).1
  have hr1 : 0 < rt p x l := by
    rcases Int.lt_or_le 0 (rt p x l) with h3 | h3
    · exact h3
    · have : rt p x l = 0 := by omega
      rw [this, Int.zero_mul] at h2; omega
  refine ⟨hr1, .inr ?_⟩
  generalize hk : m - tot p a x l - 1 = k at *
  have hk0 : 0 ≤ k := by omega
  generalize hq : k / rt p x l = q
  have hq0 : 0 ≤ q := by rw [← hq]; exact Int.ediv_nonneg hk0 (by omega)
  have hq1 : rt p x l * q ≤ k := by rw [← hq]; exact Int.mul_ediv_self_le (by omega)
  have hq2 : k < rt p x l * (q + 1) := by
    rw [← hq, Int.mul_add, Int.mul_one]; exact Int.lt_mul_ediv_self_add hr1
  have hq3 : q < y - x := by
    rcases Int.lt_or_le q (y - x) with h4 | h4
    · exact h4
    · have : rt p x l * (y - x) ≤ rt p x l * q := Int.mul_le_mul_of_nonneg_left h4 (by omega)
      omega
  have e1 : tot p x (x + q) l = rt p x l * q := by
    rw [tot_same (by omega) hm (hs.2.2.2.sub (Int.le_refl _) (by omega))]
    congr 1; omega
  have e2 : tot p x (x + q + 1) l = rt p x l * (q + 1) := by
    rw [tot_same (by omega) hm (hs.2.2.2.sub (Int.le_refl _) (by omega))]
    congr 1; omega
  have f1 := tot_add (p := p) hs.1 (show x ≤ x + q by omega) l
  have f2 := tot_add (p := p) hs.1 (show x ≤ x + q + 1 by omega) l
  exact ⟨by omega, by omega, by omega, by omega⟩

/-! ## A rate is the greatest where a contact opens -/

theorem rt_le_of {p x y : Int} : ∀ {l : List Ct}, (∀ c ∈ l, mayC c = true) → (∀ c ∈ l, c.p = p → c.f ≤ x → x < c.t → c.f ≤ y) → y ≤ x → rt p x l ≤ rt p y l
  | [], _, _, _ => Int.le_refl _
  | c :: l, hm, h, hyx => by
    have h1 := rt_le_of (p := p) (x := x) (y := y) (l := l) (fun d hd => hm d (by simp [hd])) (fun d hd => h d (by simp [hd])) hyx
    have h2 := one_nn (p := p) (x := y) (hm c (by simp))
    have h3 : one p x c ≤ one p y c := by
      have h5 := h c (by simp)
      unfold one at *
      by_cases hc : c.p = p ∧ c.f ≤ x ∧ x < c.t
      · have := h5 hc.1 hc.2.1 hc.2.2
        rw [if_pos hc, if_pos ⟨hc.1, by omega, by omega⟩]; exact Int.le_refl _
      · rw [if_neg hc]; exact h2.1
    simp only [rt]; omega
/-- Among those that are open there is one that opened last. -/
theorem last_open (p x : Int) : ∀ l : List Ct, (∀ c ∈ l, ¬ (c.p = p ∧ c.f ≤ x ∧ x < c.t)) ∨ ∃ d ∈ l, d.p = p ∧ d.f ≤ x ∧ ∀ c ∈ l, c.p = p → c.f ≤ x → x < c.t → c.f ≤ d.f
  | [] => .inl (by simp)
  | c :: l => by
    by_cases hc : c.p = p ∧ c.f ≤ x ∧ x < c.t
    · rcases last_open p x l with h | ⟨d, hd, h1, h2, h3⟩
      · refine .inr ⟨c, by simp, hc.1, hc.2.1, fun e he h4 h5 h6 => ?_⟩
        rcases List.mem_cons.mp he with rfl | he
        · exact Int.le_refl _
        · exact absurd ⟨h4, h5, h6⟩ (h e he)
      · rcases Int.le_total c.f d.f with h7 | h7
        · refine .inr ⟨d, by simp [hd], h1, h2, fun e he h4 h5 h6 => ?_⟩
          rcases List.mem_cons.mp he with rfl | he
          · exact h7
          · exact h3 e he h4 h5 h6
        · refine .inr ⟨c, by simp, hc.1, hc.2.1, fun e he h4 h5 h6 => ?_⟩
          rcases List.mem_cons.mp he with rfl | he
          · exact Int.le_refl _
          · exact Int.le_trans (h3 e he h4 h5 h6) h7
    · rcases last_open p x l with h | ⟨d, hd, h1, h2, h3⟩
      · refine .inl fun e he => ?_
        rcases List.mem_cons.mp he with rfl | he
        · exact hc
        · exact h e he
      · refine .inr ⟨d, by simp [hd], h1, h2, fun e he h4 h5 h6 => ?_⟩
        rcases List.mem_cons.mp he with rfl | he
        · exact absurd ⟨h4, h5, h6⟩ hc
        · exact h3 e he h4 h5 h6
theorem rt_zero {p x : Int} : ∀ {l : List Ct}, (∀ c ∈ l, ¬ (c.p = p ∧ c.f ≤ x ∧ x < c.t)) → rt p x l = 0
  | [], _ => rfl
  | c :: l, h => by
    have := rt_zero (p := p) (x := x) (l := l) (fun d hd => h d (by simp [hd]))
    simp only [rt, one]; rw [if_neg (h c (by simp)), this]; rfl
theorem rt_max {l : List Ct} (h : rightE l = 0) (p x : Int) : rt p x l ≤ 1000 := by
  obtain ⟨h1, h2, h3⟩ := rightE_ok.mp h
  rcases last_open p x l with h4 | ⟨d, hd, h5, h6, h7⟩
  · rw [rt_zero h4]; omega
  · have h8 := h3 d hd
    have h9 := rt_le_of (p := p) (x := x) (y := d.f) h2 h7 h6
    rw [h5] at h8; omega

/-- Behind the end of time nothing is open. -/
theorem rt_end {p : Int} {l : List Ct} (hm : ∀ c ∈ l, mayC c = true) : rt p 1099511627776 l = 0 :=
  rt_zero fun c hc => by have := mayC_iff.mp (hm c hc); omega

end Go.Proofs.Ytjolflpmeodnaai
