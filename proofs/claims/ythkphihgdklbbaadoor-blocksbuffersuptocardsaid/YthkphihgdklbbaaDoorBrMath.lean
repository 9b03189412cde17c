import Derived.Test.YthkphihgdklbbaaDoorBfGro
namespace Go.Proofs.YthkphihgdklbbaaDoor.C
set_option linter.unusedVariables false

/-! ## How many spans -/
theorem starts_lenC : ∀ {u : List Sp} {lo : Int} {S : List Int}, Rt lo u → (∀ s ∈ u, s.1 ∈ S) → u.length ≤ S.length
  | [], _, _, _, _ => Nat.zero_le _
  | s :: r, lo, S, h, hs => by
    have hm := hs s (by simp)
    have hr : ∀ t ∈ r, t.1 ∈ S.erase s.1 := fun t ht => by
      have h1 := h.2.2.2.mem t ht
      have h2 := h.2.1
      exact (List.mem_erase_of_ne (by omega)).mpr (hs t (by simp [ht]))
    have ih := starts_lenC h.2.2.2 hr
    rw [List.length_erase_of_mem hm] at ih
    have hp : 0 < S.length := List.length_pos_of_mem hm
    simp only [List.length_cons]; omega
/-- Ahead of a span's first byte there is none. -/
theorem rt_aheadC : ∀ {u : List Sp} {lo : Int}, Rt lo u → ∀ s ∈ u, has u (s.1 - 1) = false
  | t :: r, lo, h, s, hs => by
    have h2 := h.2.1
    cases q : has (t :: r) (s.1 - 1) with
    | false => rfl
    | true =>
      exfalso
      rcases List.mem_cons.mp hs with rfl | hs
      · rcases has_cons.mp q with q | q
        · omega
        · have := h.2.2.2.low q; omega
      · have h3 := h.2.2.2.mem s hs
        rcases has_cons.mp q with q | q
        · omega
        · have := rt_aheadC h.2.2.2 s hs
          rw [this] at q; cases q
theorem rt_atC {u : List Sp} {lo : Int} (h : Rt lo u) {s : Sp} (hs : s ∈ u) : has u s.1 = true := has_mem.mpr ⟨s, hs, Int.le_refl _, (h.mem s hs).2.1⟩
/-- A set to which a span came: each span begins where one did, or where that does. -/
theorem starts_ofC {l u : List Sp} {lo : Int} {p q : Int} (hl : Rt 0 l) (hu : Rt lo u) (h1 : ∀ x, has u x = true → has l x = true ∨ (p ≤ x ∧ x < q)) (h2 : ∀ x, has l x = true → has u x = true) (h3 : ∀ x, p ≤ x → x < q → has u x = true) : ∀ s ∈ u, s.1 ∈ p :: l.map (·.1) := by
  intro s hs
  have a1 := rt_atC hu hs
  have a2 := rt_aheadC hu s hs
  rcases h1 _ a1 with h | h
  · obtain ⟨r, hr, r1, r2⟩ := has_mem.mp h
    by_cases e : r.1 = s.1
    · exact List.mem_cons_of_mem _ (List.mem_map.mpr ⟨r, hr, e⟩)
    · have := h2 (s.1 - 1) (has_mem.mpr ⟨r, hr, by omega, by omega⟩)
      rw [this] at a2; cases a2
  · by_cases e : p = s.1
    · rw [e]; exact List.mem_cons_self
    · have := h3 (s.1 - 1) (by omega) (by omega)
      rw [this] at a2; cases a2

/-! ## The document's buffer: a place each, -1 or the byte that came -/
def pl (P : List Int) (i : Int) : Bool := decide (0 ≤ i ∧ i < P.length ∧ 0 ≤ P.getD i.toNat 0)
theorem pl_iff {P : List Int} {i : Int} : pl P i = true ↔ 0 ≤ i ∧ i < P.length ∧ 0 ≤ P.getD i.toNat 0 := by simp [pl]
structure RelB (b : Bf) (P : List Int) : Prop where
  hs : ∀ i : Int, has b.l i = pl P i
  len : P.length ≤ 65536
  vl : ∀ i : Nat, i < P.length → -1 ≤ P.getD i 0 ∧ P.getD i 0 ≤ 255
  eq : b.dr = false → ∀ i : Nat, has b.l i = true → P.getD i 0 = b.bs.getD i 0
theorem relB0 : RelB ⟨[], [], false⟩ [] := ⟨fun i => by simp [has, pl], by simp, fun i h => by simp at h, fun _ i h => by simp [has] at h⟩

/-- The spans of the first places. -/
structure SpR (P : List Int) (i : Nat) (out : List Sp) : Prop where
  rt : Rt 0 out
  hs : ∀ x, has out x = true ↔ 0 ≤ x ∧ x < i ∧ 0 ≤ P.getD x.toNat 0
  la : 0 < i → 0 ≤ P.getD (i - 1) 0 → ∃ l s, out = l ++ [(s, (i : Int))]
theorem spr0 (P : List Int) : SpR P 0 [] := ⟨trivial, fun x => by simp [has]; omega, fun h => by omega⟩
theorem SpR.hi {P : List Int} {i : Nat} {out : List Sp} (h : SpR P i out) : ∀ s ∈ out, s.2 ≤ i := fun s hs => by
  have h1 := h.rt.mem s hs
  have := (h.hs (s.2 - 1)).mp (has_mem.mpr ⟨s, hs, by omega, by omega⟩)
  omega
theorem SpR.len {P : List Int} {i : Nat} {out : List Sp} (h : SpR P i out) : out.length ≤ i := by
  have key : ∀ (l : List Sp) (lo : Int), 0 ≤ lo → Rt lo l → (∀ s ∈ l, s.2 ≤ i) → lo + (l.length : Int) ≤ max lo i := fun l => by
    induction l with
    | nil => intro lo _ _ _; simp; omega
    | cons s r ih =>
      intro lo h0 hr hs
      have h1 := hr.1
      have h2 := hr.2.1
      have h3 := hs s (by simp)
      have := ih (s.2 + 1) (by omega) hr.2.2.2 (fun t ht => hs t (by simp [ht]))
      simp only [List.length_cons]
      omega
  have := key out 0 (Int.le_refl _) h.rt h.hi
  omega
theorem SpR.skip {P : List Int} {i : Nat} {out : List Sp} (h : SpR P i out) (hn : P.getD i 0 < 0) : SpR P (i + 1) out := by
  refine ⟨h.rt, fun x => ?_, fun _ h1 => ?_⟩
  · rw [h.hs x]
    constructor
    · rintro ⟨a, b, c⟩; exact ⟨a, by omega, c⟩
    · rintro ⟨a, b, c⟩
      refine ⟨a, ?_, c⟩
      by_cases e : x = i
      · subst e; simp at c; simp at hn; omega
      · omega
  · simp at h1 hn; omega
theorem SpR.grow {P : List Int} {i : Nat} {l : List Sp} {s : Int} (h : SpR P i (l ++ [(s, (i : Int))])) (hm : (i : Int) < 4611686018427387903) (hn : 0 ≤ P.getD i 0) : SpR P (i + 1) (l ++ [(s, ((i + 1 : Nat) : Int))]) := by
  obtain ⟨h1, h2, h3, h4, h5⟩ := Rt.snoc.mp h.rt
  simp only at h2 h3 h4 h5
  refine ⟨Rt.snoc.mpr ⟨h1, h2, h3, by show s < _; omega, by show ((i + 1 : Nat) : Int) ≤ _; omega⟩, fun x => ?_, fun _ _ => ⟨l, s, rfl⟩⟩
  have hx := h.hs x
  rw [has_append, Bool.or_eq_true] at hx ⊢
  have e1 : (has [(s, (i : Int))] x = true) ↔ (s ≤ x ∧ x < i) := by simp [has, inn]
  have e2 : (has [(s, ((i + 1 : Nat) : Int))] x = true) ↔ (s ≤ x ∧ x < ((i + 1 : Nat) : Int)) := by simp [has, inn]
  rw [e1] at hx
  rw [e2]
  constructor
  · rintro (a | a)
    · have := hx.mp (.inl a); exact ⟨this.1, by omega, this.2.2⟩
    · by_cases e : x = i
      · subst e; exact ⟨by omega, by omega, by simpa using hn⟩
      · have := hx.mp (.inr ⟨a.1, by omega⟩); exact ⟨this.1, by omega, this.2.2⟩
  · rintro ⟨a, b, c⟩
    by_cases e : x = i
    · exact .inr ⟨by omega, by omega⟩
    · rcases hx.mpr ⟨a, by omega, c⟩ with q | q
      · exact .inl q
      · exact .inr ⟨q.1, by omega⟩
theorem SpR.more {P : List Int} {i : Nat} {out : List Sp} (h : SpR P i out) (hm : (i : Int) < 4611686018427387903) (hn : 0 ≤ P.getD i 0) (hp : i = 0 ∨ P.getD (i - 1) 0 < 0) : SpR P (i + 1) (out ++ [((i : Int), ((i + 1 : Nat) : Int))]) := by
  refine ⟨Rt.snoc.mpr ⟨h.rt, fun t ht => ?_, by show (0 : Int) ≤ i; omega, by show (i : Int) < ((i + 1 : Nat) : Int); omega, by show ((i + 1 : Nat) : Int) ≤ _; omega⟩, fun x => ?_, fun _ _ => ⟨out, _, rfl⟩⟩
  · show t.2 < (i : Int)
    have h1 := h.rt.mem t ht
    have h2 := h.hi t ht
    by_cases e : t.2 = i
    · exfalso
      have := (h.hs (t.2 - 1)).mp (has_mem.mpr ⟨t, ht, by omega, by omega⟩)
      rcases hp with q | q
      · omega
      · rw [show (t.2 - 1).toNat = i - 1 from by omega] at this; omega
    · omega
  · rw [has_append, Bool.or_eq_true, h.hs x]
    have e2 : (has [((i : Int), ((i + 1 : Nat) : Int))] x = true) ↔ ((i : Int) ≤ x ∧ x < ((i + 1 : Nat) : Int)) := by simp [has, inn]
    rw [e2]
    constructor
    · rintro (a | a)
      · exact ⟨a.1, by omega, a.2.2⟩
      · obtain rfl : x = i := by omega
        exact ⟨by omega, by omega, by simpa using hn⟩
    · rintro ⟨a, b, c⟩
      by_cases e : x = i
      · exact .inr ⟨by omega, by omega⟩
      · exact .inl ⟨a, by omega, c⟩
theorem SpR.uniq {P : List Int} {a b : List Sp} {i : Nat} (h : SpR P i a) (h' : SpR P i b) : a = b := h.rt.uniq h'.rt (fun x => Bool.eq_iff_iff.mpr ((h.hs x).trans (h'.hs x).symm))
theorem RelB.spans {b : Bf} {P : List Int} (h : RelB b P) (hb : b.Ok) {out : List Sp} (ho : SpR P P.length out) : out = b.l :=
  ho.rt.uniq hb.set.2 (fun x => by rw [h.hs x]; exact Bool.eq_iff_iff.mpr ((ho.hs x).trans pl_iff.symm))

/-! ## What 'with' makes -/
def padN (P : List Int) (n : Nat) : List Int := P ++ List.replicate (n - P.length) (-1)
theorem padN_len (P : List Int) (n : Nat) : (padN P n).length = max P.length n := by simp [padN]; omega
theorem padN_get (P : List Int) (n i : Nat) (h : i < max P.length n) : (padN P n).getD i 0 = if i < P.length then P.getD i 0 else -1 := by
  simp only [padN, List.getD_eq_getElem?_getD]
  by_cases c : i < P.length
  · rw [List.getElem?_append_left c, if_pos c]
  · rw [List.getElem?_append_right (by omega), List.getElem?_replicate, if_pos (by omega), if_neg c]; rfl
def wl (zs : List Int) (a : Nat) : Nat → List Int → List Int
  | 0, L => L
  | j + 1, L => if (wl zs a j L).getD (a + j) 0 < 0 then (wl zs a j L).set (a + j) (zs.getD j 0) else wl zs a j L
theorem wl_len (zs : List Int) (a : Nat) (L : List Int) : ∀ j, (wl zs a j L).length = L.length
  | 0 => rfl
  | j + 1 => by
    rw [wl]; split
    · rw [List.length_set, wl_len zs a L j]
    · exact wl_len zs a L j
theorem wl_get (zs : List Int) (a : Nat) (L : List Int) : ∀ j, a + j ≤ L.length → ∀ i : Nat, (wl zs a j L).getD i 0 = if (a ≤ i ∧ i < a + j) ∧ L.getD i 0 < 0 then zs.getD (i - a) 0 else L.getD i 0
  | 0, _, i => by rw [if_neg (by omega)]; rfl
  | j + 1, h, i => by
    have ih := wl_get zs a L j (by omega)
    have hq : (wl zs a j L).getD (a + j) 0 = L.getD (a + j) 0 := by rw [ih (a + j), if_neg (by omega)]
    rw [wl, hq]
    by_cases c : L.getD (a + j) 0 < 0
    · rw [if_pos c]
      by_cases e : i = a + j
      · subst e
        rw [if_pos ⟨by omega, c⟩, show a + j - a = j from by omega]
        rw [List.getD_eq_getElem?_getD, List.getElem?_set_self (by rw [wl_len]; omega)]; rfl
      · rw [List.getD_eq_getElem?_getD, List.getElem?_set_ne (by omega), ← List.getD_eq_getElem?_getD, ih i]
        by_cases q : (a ≤ i ∧ i < a + j) ∧ L.getD i 0 < 0
        · rw [if_pos q, if_pos ⟨by omega, q.2⟩]
        · rw [if_neg q, if_neg (fun r => q ⟨by omega, r.2⟩)]
    · rw [if_neg c, ih i]
      by_cases q : (a ≤ i ∧ i < a + j) ∧ L.getD i 0 < 0
      · rw [if_pos q, if_pos ⟨by omega, q.2⟩]
      · rw [if_neg q, if_neg]
        rintro ⟨r1, r2⟩
        by_cases e : i = a + j
        · subst e; exact c r2
        · exact q ⟨by omega, r2⟩
/-- How many are new, how many differ, of the first so many. -/
def frW (L : List Int) (a j : Nat) : Int := cb (fun i => decide (L.getD i.toNat 0 < 0)) a j
def clW (L zs : List Int) (dr : Bool) (a j : Nat) : Int := cb (fun i => decide (0 ≤ L.getD i.toNat 0) && (decide (¬ L.getD i.toNat 0 = zs.getD (i - a).toNat 0) && !dr)) a j

theorem siz_true : ∀ {L : List Pq}, (∀ x ∈ L, x.1.1 ≤ x.1.2) → siz (pick true L) = clp (fun _ => true) L
  | [], _ => rfl
  | x :: r, h => by
    have h1 := h x (by simp)
    have ih := siz_true (L := r) (fun y hy => h y (by simp [hy]))
    have e : ∀ (a : Int) (k : Nat), cb (fun _ => true) a k = k := fun a k => by
      induction k with
      | zero => rfl
      | succ k ih => simp [cb, ih]
    simp only [pick, clp]
    by_cases c : x.2 = true
    · rw [if_pos c, if_pos c, siz, ih, e]; omega
    · rw [if_neg c, if_neg c, ih]; omega
theorem cb_not (p : Int → Bool) (a : Int) : ∀ k : Nat, cb (fun i => !p i) a k = k - cb p a k
  | 0 => by simp [cb]
  | k + 1 => by
    simp only [cb, cb_not p a k]
    by_cases e : p (a + k) = true <;> simp [e] <;> omega
theorem fresh_eq {l u : List Sp} {f t : Int} (hl : Rt 0 l) (ha : Asked (f, t)) (hu : Uni l [(f, t)] u) : siz u - siz l = cb (fun i => !has l i) f (t - f).toNat := by
  have h1 := new_math hl ha hu
  have h2 := sum_math hl ha
  have h3 : siz (wth l (f, t)) = cb (fun i => has l i) f (t - f).toNat := by
    show siz (pick true (pc t f l)) = _
    rw [siz_true (fun x hx => by have := pc_in hl x hx; omega), clp_pc hl ha.2.1]
    exact cb_congr (fun i _ _ => by simp)
  have h4 := cb_not (fun i => has l i) f (t - f).toNat
  have h5 : f ≤ t := ha.2.1
  simp only at h1 h2
  omega
/-- What the document's 'with' makes is what Put makes. -/
theorem with_rel {b : Bf} {P zs : List Int} {a : Nat} (h : RelB b P) (hb : b.Ok) (hz : Bytey zs) (hm : may4 (a : Int) zs) {out : List Sp} (ho : SpR (wl zs a zs.length (padN P (a + zs.length))) (max P.length (a + zs.length)) out) :
    Uni b.l [((a : Int), (a : Int) + (zs.length : Int))] out ∧ frW (padN P (a + zs.length)) a zs.length = siz out - siz b.l ∧ clW (padN P (a + zs.length)) zs b.dr a zs.length = clN b a zs ∧ (out.length ≤ 2000 → RelB (putB b a zs out) (wl zs a zs.length (padN P (a + zs.length)))) := by
  obtain ⟨m1, m2, m3, m4⟩ := id hm
  have hpl := padN_len P (a + zs.length)
  have hg := wl_get zs a (padN P (a + zs.length)) zs.length (by rw [hpl]; omega)
  have hzb : ∀ j, j < zs.length → 0 ≤ zs.getD j 0 ∧ zs.getD j 0 ≤ 255 := fun j hj => by
    rw [List.getD_eq_getElem?_getD, List.getElem?_eq_getElem hj]; exact hz _ (List.getElem_mem hj)
  have hpg : ∀ i : Nat, i < max P.length (a + zs.length) → ((padN P (a + zs.length)).getD i 0 < 0 ↔ has b.l i = false) := fun i hi => by
    rw [padN_get P _ i hi, h.hs i]
    by_cases c : i < P.length
    · rw [if_pos c]
      cases e : pl P i with
      | true => have := pl_iff.mp e; simp at this ⊢; omega
      | false =>
        have : ¬ (0 ≤ (i : Int) ∧ (i : Int) < P.length ∧ 0 ≤ P.getD (i : Int).toNat 0) := fun q => by rw [pl_iff.mpr q] at e; cases e
        simp at this ⊢; omega
    · rw [if_neg c]
      have : pl P i = false := by
        cases e : pl P i with
        | false => rfl
        | true => have := pl_iff.mp e; omega
      rw [this]; simp
  have hhi : ∀ x, has b.l x = true → 0 ≤ x ∧ x < P.length := fun x hx => by rw [h.hs x] at hx; have := pl_iff.mp hx; omega
  have hor : ∀ x, has out x = true ↔ has b.l x = true ∨ ((a : Int) ≤ x ∧ x < (a : Int) + zs.length) := fun x => by
    rw [ho.hs x]
    constructor
    · rintro ⟨x0, x1, x2⟩
      rw [hg x.toNat] at x2
      by_cases c : (a : Int) ≤ x ∧ x < (a : Int) + zs.length
      · exact .inr c
      · rw [if_neg (by omega)] at x2
        left
        cases e : has b.l x with
        | true => rfl
        | false =>
          have := (hpg x.toNat (by omega)).mpr (by rw [show ((x.toNat : Nat) : Int) = x from by omega]; exact e)
          omega
    · intro hx
      have hx0 : 0 ≤ x ∧ x < max P.length (a + zs.length) := by
        rcases hx with q | q
        · have := hhi x q; omega
        · omega
      refine ⟨hx0.1, by omega, ?_⟩
      rw [hg x.toNat]
      split
      · rename_i q; exact (hzb _ (by omega)).1
      · rename_i q
        rcases Int.lt_or_le ((padN P (a + zs.length)).getD x.toNat 0) 0 with r | r
        · exfalso
          have e := (hpg x.toNat (by omega)).mp r
          rw [show ((x.toNat : Nat) : Int) = x from by omega] at e
          rcases hx with q2 | q2
          · rw [e] at q2; cases q2
          · exact q ⟨by omega, r⟩
        · exact r
  have huni : Uni b.l [((a : Int), (a : Int) + (zs.length : Int))] out := by
    refine ⟨ho.rt, fun x => ?_, ?_⟩
    · apply Bool.eq_iff_iff.mpr
      rw [hor x, Bool.or_eq_true]
      rw [show (has [((a : Int), (a : Int) + (zs.length : Int))] x = true) ↔ ((a : Int) ≤ x ∧ x < (a : Int) + zs.length) from by simp [has, inn]]
    · have h1 := starts_lenC (u := out) (S := (a : Int) :: b.l.map (·.1)) ho.rt (fun s hs => starts_ofC hb.set.2 ho.rt (fun x hx => (hor x).mp hx) (fun x hx => (hor x).mpr (.inl hx)) (fun x x1 x2 => (hor x).mpr (.inr ⟨x1, x2⟩)) s hs)
      simpa using h1
  have hask : Asked ((a : Int), (a : Int) + (zs.length : Int)) := ⟨by show (0 : Int) ≤ a; omega, by show (a : Int) ≤ a + (zs.length : Int); omega, by show (a : Int) + (zs.length : Int) ≤ _; omega⟩
  refine ⟨huni, ?_, ?_, fun hl => ⟨fun i => ?_, by rw [wl_len, hpl]; have := h.len; omega, fun i hi => ?_, fun hd i hi => ?_⟩⟩
  · rw [fresh_eq hb.set.2 hask huni, show ((a : Int) + (zs.length : Int) - (a : Int)).toNat = zs.length from by omega]
    unfold frW
    refine cb_congr (fun i i1 i2 => ?_)
    have := hpg i.toNat (by omega)
    rw [show ((i.toNat : Nat) : Int) = i from by omega] at this
    cases e : has b.l i with
    | true => simp [e] at this ⊢; omega
    | false => simp [e] at this ⊢; omega
  · unfold clW clN
    cases hd : b.dr with
    | true =>
      rw [if_pos rfl]
      exact cb_none (fun i _ _ => by simp)
    | false =>
      rw [if_neg (by simp)]
      refine cb_congr (fun i i1 i2 => ?_)
      have hp := hpg i.toNat (by omega)
      rw [show ((i.toNat : Nat) : Int) = i from by omega] at hp
      cases e : has b.l i with
      | false => simp [e] at hp ⊢; omega
      | true =>
        have hx := hhi i e
        have hq : (padN P (a + zs.length)).getD i.toNat 0 = b.bs.getD i.toNat 0 := by
          rw [padN_get P _ i.toNat (by omega), if_pos (by omega)]
          exact h.eq hd i.toNat (by rw [show ((i.toNat : Nat) : Int) = i from by omega]; exact e)
        rw [hq] at hp ⊢
        simp [e] at hp
        unfold dfB
        simp; omega
  · show has out i = _
    apply Bool.eq_iff_iff.mpr
    rw [ho.hs i, pl_iff, wl_len, hpl]
  · rw [wl_len, hpl] at hi
    rw [hg i]
    split
    · rename_i q; have := hzb (i - a) (by omega); omega
    · rw [padN_get P _ i hi]
      split
      · rename_i q; exact h.vl i q
      · omega
  · show _ = (tkB b a zs).getD i 0
    have hd' : b.dr = false := hd
    rw [hg i, tk_get hb hd' hm i]
    have hi' : has b.l i = true ∨ ((a : Int) ≤ i ∧ (i : Int) < (a : Int) + zs.length) := (hor i).mp hi
    have hil : i < max P.length (a + zs.length) := by
      rcases hi' with q | q
      · have := hhi i q; omega
      · omega
    have hp := hpg i hil
    by_cases c : ((a : Int) ≤ i ∧ (i : Int) < (a : Int) + zs.length) ∧ has b.l i = false
    · rw [if_pos c, if_pos ⟨by omega, hp.mpr c.2⟩, show ((i : Int) - (a : Int)).toNat = i - a from by omega]
    · rw [if_neg c, if_neg (fun q => c ⟨by omega, hp.mp q.2⟩)]
      have hh : has b.l i = true := by
        rcases hi' with q | q
        · exact q
        · cases e : has b.l i with
          | true => rfl
          | false => exact absurd ⟨q, e⟩ c
      rw [padN_get P _ i hil, if_pos (by have := hhi i hh; omega)]
      exact h.eq hd' i hh

end Go.Proofs.YthkphihgdklbbaaDoor.C

namespace Go.Proofs.YthkphihgdklbbaaDoor.C
open Go.RowKit Go.Shelf
set_option linter.unusedVariables false

theorem lies_atR {k : IntKind} {w : World} {a : Option Addr} {P : List Int} (h : Lies k w a P) {i : Nat} (hi : i < P.length) : ∃ g off, a = some ⟨g, off, none⟩ ∧ ∀ j, j < P.length → w.cell? ⟨g, off + j, none⟩ = some (.int k (P.getD j 0)) := by
  rcases h with rfl | ⟨g, off, rfl, hc⟩
  · simp at hi
  · exact ⟨g, off, rfl, hc⟩
theorem own_app1 {w : World} {base : Nat} {v : Value} {l : List Sp} {p : Sp} (h : w.ownsRow base 38 2 v (l.length + 1) (l.flatMap spc ++ [.int .i64 p.1, .int .i64 p.2])) : SOwn w base v (l ++ [p]) := by
  unfold SOwn
  rw [List.length_append, List.flatMap_append]
  simpa [spc] using h

set_option maxRecDepth 100000 in
set_option maxHeartbeats 4000000 in
theorem spansR_any (a : Option Addr) (n c : Nat) (P : List Int) (w : World) (hn : P.length = n) (hl : Lies .i64 w a P) (hb : n ≤ 131072) :
    Calls Tryd.prog 53 #[.slice a n c] w fun e w' => ∃ v out, e = .returned v ∧ SOwn w' w.heap.size v out ∧ SpR P n out ∧ Below w.heap.size w w' := by
  obtain ⟨i0, hi, hz0, hz1, hz2⟩ := info_parts Tryd.info_span
  have HL : Hid (Lies .i64 w a P ∧ P.length = n) := ⟨hl, hn⟩
  clear hl hn
  go_enter Tryd.func53, Tryd.ntmps53
  go_wp2
  go_loopw [3, 4] (fun q p wr => ∃ (i : Nat) (out : List Sp) (ao : Option Addr) (co : Nat), p = .int .i64 (i : Int) ∧ i ≤ n ∧ q = .slice ao out.length co ∧ Hid (SOwn wr w.heap.size (.slice ao out.length co) out ∧ SpR P i out ∧ Below w.heap.size w wr)) (fun _ p _ => n - (intOf p).toNat)
  case atStart => exact ⟨0, [], none, 0, rfl, by omega, rfl, SOwn.nil _ _, spr0 P, Below.refl _ _⟩
  case round =>
    obtain ⟨i, out, ao, co, rfl, hin, rfl, HR⟩ := hrel
    by_cases hlt : i < n
    · have hlt' : (i : Int) < (n : Int) := by omega
      obtain ⟨g, off, rfl, hc⟩ := lies_atR (Lies.below HL.out.1 HR.out.2.2) (i := i) (by rw [HL.out.2]; exact hlt)
      have c1 := hc i (by rw [HL.out.2]; exact hlt)
      have hiw : IntKind.i64.wrap ((i : Int) + 1) = ((i + 1 : Nat) : Int) := by rw [IntKind.wrap_i64]; omega
      have hol : out.length ≤ 131072 := by have := HR.out.2.1.len; omega
      have HC : Hid (∀ j, j < n → wr.cell? ⟨g, off + j, none⟩ = some (.int .i64 (P.getD j 0))) := fun j hj => hc j (by rw [HL.out.2]; exact hj)
      clear hc
      by_cases hneg : P.getD i 0 < 0
      · have HE : Hid (SpR P (i + 1) out) := HR.out.2.1.skip hneg
        generalize P.getD i 0 = pv at c1 hneg
        go_wp2
        go_roundw
        case rel => exact ⟨i + 1, out, ao, co, rfl, by omega, rfl, HR.out.1, HE.out, HR.out.2.2⟩
        case measure => simp [intOf]; omega
      · have hpos : 0 ≤ P.getD i 0 := by omega
        by_cases hpre : 0 < i ∧ 0 ≤ P.getD (i - 1) 0
        · obtain ⟨l, s, rfl⟩ := HR.out.2.1.la hpre.1 hpre.2
          obtain ⟨go, cap, hv, hg1, hg2, d1, d2, d3, d4⟩ := SOwn.last HR.out.1
          have hln : (l ++ [(s, (i : Int))]).length = l.length + 1 := by simp
          have HE : Hid (SpR P (i + 1) (l ++ [(s, ((i + 1 : Nat) : Int))])) := SpR.grow HR.out.2.1 (by omega) hpos
          have HS : Hid (SOwn (wr.setCell ⟨go, l.length * 2 + 1, none⟩ (.int .i64 ((i + 1 : Nat) : Int))) w.heap.size (.slice ao (l ++ [(s, (i : Int))]).length co) (l ++ [(s, ((i + 1 : Nat) : Int))])) := d4 _
          have HB5 : Hid (Below w.heap.size w (wr.setCell ⟨go, l.length * 2 + 1, none⟩ (.int .i64 ((i + 1 : Nat) : Int)))) := HR.out.2.2.setCell hg1 _
          have c0 := HC.out (i - 1) (by omega)
          obtain ⟨ii, hii0⟩ : ∃ ii, i - 1 = ii := ⟨_, rfl⟩
          have hi0 : 0 < i := hpre.1
          have hi1 : 0 < (i : Int) := by omega
          have hw1 : IntKind.i64.wrap ((i : Int) - 1) = (ii : Int) := by rw [IntKind.wrap_i64]; omega
          have hii : (ii : Int) < (n : Int) := by omega
          have hpp := hpre.2
          rw [hii0] at c0 hpp
          clear hii0
          have d5 := d3 (l.length * 2 + 1)
          obtain ⟨N, hN⟩ : ∃ N, (l ++ [(s, (i : Int))]).length = N := ⟨_, rfl⟩
          have hlN : l.length + 1 = N := by rw [← hN]; simp
          have hw2 : IntKind.i64.wrap ((N : Int) - 1) = (l.length : Int) := by rw [IntKind.wrap_i64]; simp at hol; omega
          have hl1 : (l.length : Int) < (N : Int) := by omega
          have HN : Hid ((l ++ [(s, ((i + 1 : Nat) : Int))]).length = N) := by unfold Hid; rw [← hlN]; simp
          rw [hN] at HS ⊢
          rw [hN, hlN] at hv
          simp only [Value.slice.injEq, true_and] at hv
          obtain ⟨rfl, rfl⟩ := hv
          generalize P.getD i 0 = pv at c1 hneg hpos
          generalize P.getD ii 0 = pu at c0 hpp
          clear d3 d4 hln HR HC hpre hol hg1 hg2 hlN hN
          generalize l.length = L at *
          go_wp2
          go_roundw
          case rel => exact ⟨i + 1, l ++ [(s, ((i + 1 : Nat) : Int))], _, _, rfl, by omega, by rw [HN.out], by rw [HN.out]; exact ⟨HS.out, HE.out, HB5.out⟩⟩
          case measure => simp [intOf]; omega
        · have hor : i = 0 ∨ P.getD (i - 1) 0 < 0 := by
            rcases Nat.eq_zero_or_pos i with q | q
            · exact .inl q
            · right
              rcases Int.lt_or_le (P.getD (i - 1) 0) 0 with r | r
              · exact r
              · exact absurd ⟨q, r⟩ hpre
          have HE : Hid (SpR P (i + 1) (out ++ [((i : Int), ((i + 1 : Nat) : Int))])) := HR.out.2.1.more (by omega) hpos hor
          have HO : Hid ((wr.alloc (.cells #[.int .i64 (i : Int), .int .i64 ((i + 1 : Nat) : Int)] 38)).ownsRow w.heap.size 38 2 (.slice ao out.length co) out.length (out.flatMap spc)) := World.ownsRow.alloc HR.out.1 _
          by_cases h0 : i = 0
          · have hi1 : ¬ (0 < (i : Int)) := by omega
            have hi2 : ¬ (0 < i) := by omega
            generalize P.getD i 0 = pv at c1 hneg hpos
            clear hpre HC h0
            go_wp2_with (at_builtin; refine wpList_append_own_at _ rfl _ _ 59 rfl w.heap.size 38 i0 (.agg #[.int .i64 0, .int .i64 0]) 2 16 Tryd.underlying59 hi hz0 hz1 hz2 rfl (by decide) _ _ _ rfl HO.out ⟨wr.heap.size, 0, none⟩ 1 1 [.int .i64 (i : Int), .int .i64 ((i + 1 : Nat) : Int)] rfl rfl ?c1 ?c2 ?c3 ?c4 ?c5 ?_)
            try (case c1 => exact cell_two_at _ _ _ _ _ (by simp))
            case c2 => first | exact ⟨rfl, rfl⟩ | (intro x hx; simp at hx; rcases hx with rfl | rfl <;> rfl)
            case c3 => unfold maxLen; omega
            case c4 => omega
            case c5 => have := HR.out.2.2.size; simp; omega
            intro v' w5 hown5 hgrow5 hn5 _
            clear hn5
            have HS : Hid (SOwn w5 w.heap.size v' (out ++ [((i : Int), ((i + 1 : Nat) : Int))])) := own_app1 hown5
            have HB5 : Hid (Below w.heap.size w w5) := (HR.out.2.2.alloc HR.out.2.2.size _).grown hgrow5 (by have := HR.out.2.2.size; simp; omega) (fun k e => (HR.out.1.lt k e).1)
            obtain ⟨a5, c5, rfl⟩ := HS.out.shape
            clear hown5 hgrow5 HO
            go_wp2
            go_roundw
            case rel => exact ⟨i + 1, _, a5, c5, rfl, by omega, rfl, HS.out, HE.out, HB5.out⟩
            case measure => simp [intOf]; omega
          · have c0 := HC.out (i - 1) (by omega)
            obtain ⟨ii, hii0⟩ : ∃ ii, i - 1 = ii := ⟨_, rfl⟩
            have hi0 : 0 < i := by omega
            have hi1 : 0 < (i : Int) := by omega
            have hw1 : IntKind.i64.wrap ((i : Int) - 1) = (ii : Int) := by rw [IntKind.wrap_i64]; omega
            have hii : (ii : Int) < (n : Int) := by omega
            rw [hii0] at c0 hpre
            have hpp : ¬ (0 ≤ P.getD ii 0) := fun r => hpre ⟨hi0, r⟩
            clear hii0 h0
            generalize P.getD i 0 = pv at c1 hneg hpos
            generalize P.getD ii 0 = pu at c0 hpp
            clear hpre HC
            go_wp2_with (at_builtin; refine wpList_append_own_at _ rfl _ _ 59 rfl w.heap.size 38 i0 (.agg #[.int .i64 0, .int .i64 0]) 2 16 Tryd.underlying59 hi hz0 hz1 hz2 rfl (by decide) _ _ _ rfl HO.out ⟨wr.heap.size, 0, none⟩ 1 1 [.int .i64 (i : Int), .int .i64 ((i + 1 : Nat) : Int)] rfl rfl ?c1 ?c2 ?c3 ?c4 ?c5 ?_)
            try (case c1 => exact cell_two_at _ _ _ _ _ (by simp))
            case c2 => first | exact ⟨rfl, rfl⟩ | (intro x hx; simp at hx; rcases hx with rfl | rfl <;> rfl)
            case c3 => unfold maxLen; omega
            case c4 => omega
            case c5 => have := HR.out.2.2.size; simp; omega
            intro v' w5 hown5 hgrow5 hn5 _
            clear hn5
            have HS : Hid (SOwn w5 w.heap.size v' (out ++ [((i : Int), ((i + 1 : Nat) : Int))])) := own_app1 hown5
            have HB5 : Hid (Below w.heap.size w w5) := (HR.out.2.2.alloc HR.out.2.2.size _).grown hgrow5 (by have := HR.out.2.2.size; simp; omega) (fun k e => (HR.out.1.lt k e).1)
            obtain ⟨a5, c5, rfl⟩ := HS.out.shape
            clear hown5 hgrow5 HO
            go_wp2
            go_roundw
            case rel => exact ⟨i + 1, _, a5, c5, rfl, by omega, rfl, HS.out, HE.out, HB5.out⟩
            case measure => simp [intOf]; omega
    · obtain rfl : i = n := by omega
      go_wp2
      go_ret
      exact ⟨_, out, rfl, HR.out.1, HR.out.2.1, HR.out.2.2⟩

end Go.Proofs.YthkphihgdklbbaaDoor.C

namespace Go.Proofs.YthkphihgdklbbaaDoor.C
open Go.RowKit Go.Shelf
set_option linter.unusedVariables false

theorem Tryd.info_int1 : (Tryd.prog.info? 3).map (fun i => (i.zero, i.size, i.bytes)) = some (some (.int .i64 0), 1, 8) := by kernel_rfl
abbrev IOw (w : World) (base : Nat) (v : Value) (L : List Int) : Prop := w.ownsRow base 3 1 v L.length (L.map (Value.int .i64))
theorem iow_lies {w : World} {base n c : Nat} {a : Option Addr} {L : List Int} (h : w.ownsRow base 3 1 (.slice a n c) n (L.map (Value.int .i64))) : Lies .i64 w a L := by
  obtain ⟨hl, ⟨h1, h2⟩ | ⟨g, cap, cur, h1, hb, hh, hn, hm, hs, ht⟩⟩ := id h
  · left
    exact List.eq_nil_of_length_eq_zero (by simpa [h2] using hl)
  · simp only [Value.slice.injEq] at h1
    obtain ⟨rfl, _, rfl⟩ := h1
    have hl' : L.length = n := by simpa using hl
    refine .inr ⟨g, 0, rfl, fun i hi => ?_⟩
    rw [Nat.zero_add, h.cellAt i (by omega), List.getElem?_map, List.getD_eq_getElem?_getD, List.getElem?_eq_getElem hi]
    rfl
/-- What 'with' answers. -/
def WtR (P : List Int) (dr : Bool) (at' : Int) (zs : List Int) (L : List Int) (fr cl er : Int) : Prop :=
  (65536 < zs.length ∧ er = 2 ∧ fr = 0 ∧ cl = 0) ∨ (zs.length ≤ 65536 ∧ ¬ may4 at' zs ∧ er = 1 ∧ fr = 0 ∧ cl = 0) ∨
  (may4 at' zs ∧ ∃ out, SpR (wl zs at'.toNat zs.length (padN P (at'.toNat + zs.length))) (max P.length (at'.toNat + zs.length)) out ∧
    ((2000 < out.length ∧ er = 3 ∧ fr = 0 ∧ cl = 0) ∨ (out.length ≤ 2000 ∧ er = 0 ∧ fr = frW (padN P (at'.toNat + zs.length)) at'.toNat zs.length ∧ cl = clW (padN P (at'.toNat + zs.length)) zs dr at'.toNat zs.length ∧ L = wl zs at'.toNat zs.length (padN P (at'.toNat + zs.length)))))
def WtPost (P : List Int) (dr : Bool) (at' : Int) (zs : List Int) (w : World) (e : Ending) (w' : World) : Prop := ∃ v L fr cl er, e = .returned (.tuple #[v, .int .i64 fr, .int .i64 cl, .int .i64 er]) ∧ IOw w' w.heap.size v L ∧ WtR P dr at' zs L fr cl er ∧ Below w.heap.size w w'
theorem padN_step (P : List Int) (m : Nat) (h : P.length ≤ m) : padN P m ++ [-1] = padN P (m + 1) := by
  unfold padN
  rw [List.append_assoc, show m + 1 - P.length = (m - P.length) + 1 from by omega, List.replicate_succ']
theorem padN_le (P : List Int) (m : Nat) (h : m ≤ P.length) : padN P m = P := by unfold padN; rw [show m - P.length = 0 from by omega]; simp
theorem frW_step (L : List Int) (a j : Nat) : frW L a (j + 1) = frW L a j + (if L.getD (a + j) 0 < 0 then 1 else 0) := by
  have ht : ((a : Int) + (j : Int)).toNat = a + j := by omega
  show cb _ _ j + (if decide (L.getD ((a : Int) + (j : Int)).toNat 0 < 0) = true then 1 else 0) = _
  by_cases c : L.getD (a + j) 0 < 0
  · rw [if_pos c, if_pos (by rw [ht]; exact decide_eq_true c)]; rfl
  · rw [if_neg c, if_neg (by rw [ht, decide_eq_false c]; simp)]; rfl
theorem clW_step (L zs : List Int) (dr : Bool) (a j : Nat) : clW L zs dr a (j + 1) = clW L zs dr a j + (if 0 ≤ L.getD (a + j) 0 ∧ ¬ L.getD (a + j) 0 = zs.getD j 0 ∧ dr = false then 1 else 0) := by
  have ht : ((a : Int) + (j : Int)).toNat = a + j := by omega
  have ht2 : ((a : Int) + (j : Int) - (a : Int)).toNat = j := by omega
  show cb _ _ j + (if (decide (0 ≤ L.getD ((a : Int) + (j : Int)).toNat 0) && (decide (¬ L.getD ((a : Int) + (j : Int)).toNat 0 = zs.getD ((a : Int) + (j : Int) - (a : Int)).toNat 0) && !dr)) = true then 1 else 0) = _
  by_cases c : 0 ≤ L.getD (a + j) 0 ∧ ¬ L.getD (a + j) 0 = zs.getD j 0 ∧ dr = false
  · rw [if_pos c, if_pos (by rw [ht, ht2, decide_eq_true c.1, decide_eq_true c.2.1, c.2.2]; rfl)]; rfl
  · rw [if_neg c, if_neg (by
      rw [ht, ht2]
      intro q
      simp only [Bool.and_eq_true, decide_eq_true_eq, Bool.not_eq_true'] at q
      exact c q)]; rfl
theorem wl_at (zs : List Int) (a : Nat) (L : List Int) (j : Nat) (h : a + j < L.length) : (wl zs a j L).getD (a + j) 0 = L.getD (a + j) 0 := by
  rw [wl_get zs a L j (by omega), if_neg (by omega)]
theorem wl_step (zs : List Int) (a : Nat) (L : List Int) (j : Nat) (h : a + j < L.length) : wl zs a (j + 1) L = if L.getD (a + j) 0 < 0 then (wl zs a j L).set (a + j) (zs.getD j 0) else wl zs a j L := by
  rw [wl, wl_at zs a L j h]

set_option maxRecDepth 100000 in
set_option maxHeartbeats 4000000 in
theorem withR_any (Br : Nat) (P : List Int) (dr : Bool) (ap : Option Addr) (np cp : Nat) (at' : Int) (ad : Option Addr) (nd cd : Nat) (zs : List Int) (w : World) (hB : w.heap[Br]? = some (.cells #[.slice ap np cp, .bool dr] 105 (0, 0))) (hp : P.length = np) (hpl : Lies .i64 w ap P) (hpm : np ≤ 65536) (hpn : ap = none → np = 0 ∧ cp = 0) (hnd : zs.length = nd) (hmx : nd ≤ 140737488355328) (hz : Lies .u8 w ad zs) (hzb : Bytey zs) :
    Calls Tryd.prog 52 #[.pointer (some ⟨Br, 0, none⟩), .int .i64 at', .slice ad nd cd] w (WtPost P dr at' zs w) := by
  obtain ⟨i0, hi, hz0, hz1, hz2⟩ := info_parts Tryd.info_int1
  have HN : Hid (zs.length = nd ∧ Lies .u8 w ad zs ∧ P.length = np ∧ Bytey zs) := ⟨hnd, hz, hp, hzb⟩
  have q0 : w.cell? ⟨Br, 0, none⟩ = some (.slice ap np cp) := cell_of_row _ _ 0 _ _ _ hB
  have HQ1 : Hid (w.heap[Br]? = some (.cells #[.slice ap np cp, .bool dr] 105 (0, 0))) := hB
  have HP : Hid (Lies .i64 w ap P) := hpl
  have HPn : Hid (ap = none → np = 0 ∧ cp = 0) := hpn
  clear hB hpl hnd hz hp hpn hzb
  go_enter Tryd.func52, Tryd.ntmps52
  by_cases h1 : (65536 : Int) < (nd : Int)
  · go_wp2
    refine bodyPost_ret (v := .tuple #[.slice none 0 0, .int .i64 0, .int .i64 0, .int .i64 2]) (by simp [results, Tryd.results52, go_sem]) rfl ?_
    exact ⟨_, [], 0, 0, 2, rfl, World.ownsRow_nil _ _ _ _, .inl ⟨by have := HN.out.1; omega, rfl, rfl, rfl⟩, Below.refl _ _⟩
  · by_cases hmay : may4 at' zs
    · obtain ⟨a, rfl⟩ : ∃ a : Nat, at' = a := ⟨at'.toNat, by have := hmay.2.2.1; omega⟩
      have hnl := HN.out.1
      have HM : Hid (may4 (a : Int) zs) := hmay
      obtain ⟨m1, m2, m3, m4⟩ := hmay
      rw [hnl] at m1 m2 m4
      have h2' : ((nd : Int) == 0) = false := beq_false_of_ne (by omega)
      have h3 : IntKind.i64.wrap (65536 - (nd : Int)) = 65536 - nd := by rw [IntKind.wrap_i64]; omega
      have h4 : ¬ ((a : Int) < 0) := by omega
      have h5 : ¬ (65536 - (nd : Int) < (a : Int)) := by omega
      have h6 : IntKind.i64.wrap ((a : Int) + (nd : Int)) = ((a + nd : Nat) : Int) := by rw [IntKind.wrap_i64]; omega
      have HO : Hid ((w.alloc (.cells #[] 3)).ownsRow w.heap.size 3 1 (.slice (some ⟨w.heap.size, 0, none⟩) 0 0) 0 []) := ⟨rfl, .inr ⟨w.heap.size, 0, #[], rfl, Nat.le_refl _, heap_alloc_new' _ _, Nat.le_refl _, by unfold maxLen; omega, rfl, rfl⟩⟩
      have HB0 : Hid (Below w.heap.size w (w.alloc (.cells #[] 3))) := (Below.refl _ _).alloc (Nat.le_refl _) _
      have q0' := cell_below q0 HB0.out
      have HL : Hid (Lies .i64 (w.alloc (.cells #[] 3)) ap P) := Lies.below HP.out HB0.out
      have HX : Hid ((Nat.max np (a + nd) ≤ 65536) ∧ P.length = np ∧ zs.length = nd) := ⟨by show max np (a + nd) ≤ 65536; omega, HN.out.2.2.1, hnl⟩
      clear hnl m3
      go_wp2_with (at_builtin; refine append_any _ rfl _ _ 48 rfl w.heap.size 3 i0 (.int .i64 0) 8 Tryd.underlying48 hi hz0 hz1 hz2 rfl _ _ _ rfl HO.out .i64 ap np cp P rfl HPn.out HX.out.2.1 HL.out (by unfold maxLen; omega) (by omega) (by simp) ?_)
      intro v1 w1 hown1 hgrow1
      have HI1 : Hid (w1.ownsRow w.heap.size 3 1 v1 np (P.map (Value.int .i64)) ∧ Below w.heap.size w w1) := ⟨by simpa using hown1, HB0.out.grown hgrow1 (by simp) (fun k e => by simp [Value.ownBlock] at e; omega)⟩
      obtain ⟨a1, c1, rfl⟩ := own_shape HI1.out.1
      clear hown1 hgrow1 HO HB0 HL q0'
      go_wp2_with fail
      go_loopw [10] (fun q wr => ∃ (m : Nat) (am : Option Addr) (cm : Nat), q = .slice am m cm ∧ np ≤ m ∧ m ≤ max np (a + nd) ∧ Hid (wr.ownsRow w.heap.size 3 1 (.slice am m cm) m ((padN P m).map (Value.int .i64)) ∧ Below w.heap.size w wr)) (fun q _ => (a + nd) - (match q with | .slice _ m _ => m | _ => 0))
      case atStart => exact ⟨np, a1, c1, rfl, by omega, by omega, by rw [padN_le P np (by rw [HX.out.2.1]; omega)]; exact HI1.out.1, HI1.out.2⟩
      case round =>
        obtain ⟨m, am, cm, rfl, hm1, hm2, HR⟩ := hrel
        have hmx2 := HX.out.1
        have hmx3 : max np (a + nd) ≤ 65536 := hmx2
        by_cases hlt : m < a + nd
        · have hlt' : (m : Int) < ((a + nd : Nat) : Int) := by omega
          have HO : Hid ((wr.alloc (.cells #[.int .i64 (-1)] 3)).ownsRow w.heap.size 3 1 (.slice am m cm) m ((padN P m).map (Value.int .i64))) := World.ownsRow.alloc HR.out.1 _
          clear hmx2 hmx3
          go_wp2_with (at_builtin; refine wpList_append_own_at _ rfl _ _ 48 rfl w.heap.size 3 i0 (.int .i64 0) 1 8 Tryd.underlying48 hi hz0 hz1 hz2 rfl (by decide) _ _ _ rfl HO.out ⟨wr.heap.size, 0, none⟩ 1 1 [.int .i64 (-1)] rfl rfl ?c1 ?c2 ?c3 ?c4 ?c5 ?_)
          try (case c1 => exact cell_one_new _ _ _)
          try (case c2 => first | rfl | (intro x hx; simp at hx; subst hx; rfl))
          try (case c3 => unfold maxLen; have := HX.out.1; omega)
          try (case c4 => have := HX.out.1; omega)
          try (case c5 => have := HR.out.2.size; simp; omega)
          intro v' w5 hown5 hgrow5 hn5 _
          clear hn5
          have HS : Hid (w5.ownsRow w.heap.size 3 1 v' (m + 1) ((padN P (m + 1)).map (Value.int .i64)) ∧ Below w.heap.size w w5) := ⟨by rw [← padN_step P m (by rw [HX.out.2.1]; exact hm1), List.map_append]; exact hown5, (HR.out.2.alloc HR.out.2.size _).grown hgrow5 (by have := HR.out.2.size; simp; omega) (fun k e => (HR.out.1.lt k e).1)⟩
          obtain ⟨a5, c5, rfl⟩ := own_shape HS.out.1
          clear hown5 hgrow5 HO
          go_wp2
          go_roundw
          case rel => exact ⟨m + 1, a5, c5, rfl, by omega, by omega, HS.out.1, HS.out.2⟩
          case measure => simp; omega
        · have hme : m = max np (a + nd) := by omega
          have hnl : ¬ ((m : Int) < ((a + nd : Nat) : Int)) := by omega
          have hgs : ∃ g c, Value.slice am m cm = .slice (some ⟨g, 0, none⟩) m c := own_some HR.out.1 (by omega)
          obtain ⟨g, c', hgs⟩ := hgs
          simp only [Value.slice.injEq, true_and] at hgs
          obtain ⟨rfl, rfl⟩ := hgs
          obtain ⟨L0, hL0⟩ : ∃ L0, L0 = padN P (a + nd) := ⟨_, rfl⟩
          have hL0l : L0.length = m := by rw [hL0, padN_len, HX.out.2.1]; omega
          have hLm : padN P m = L0 := by
            rw [hL0]
            by_cases q : np ≤ a + nd
            · rw [show m = a + nd from by omega]
            · rw [padN_le P m (by rw [HX.out.2.1]; omega), padN_le P (a + nd) (by rw [HX.out.2.1]; omega)]
          have HR0 : Hid (wr.ownsRow w.heap.size 3 1 (.slice (some ⟨g, 0, none⟩) m cm) m (L0.map (Value.int .i64)) ∧ Below w.heap.size w wr ∧ L0.length = m ∧ a + nd ≤ m ∧ m ≤ 65536 ∧ L0 = padN P (a + nd) ∧ m = max np (a + nd)) := ⟨by rw [← hLm]; exact HR.out.1, HR.out.2, hL0l, by omega, by omega, hL0, hme⟩
          obtain ⟨wo, hwo⟩ : ∃ x, x = wr := ⟨_, rfl⟩
          subst hwo
          clear hme hL0 hL0l hLm hmx2 hmx3 HR
          go_wp2_with fail
          go_loopw [11, 12, 13] (fun f cl p wr => ∃ (j : Nat) (fv cv : Int), p = .int .i64 (j : Int) ∧ f = .int .i64 fv ∧ cl = .int .i64 cv ∧ j ≤ nd ∧ 0 ≤ fv ∧ fv ≤ 65536 ∧ 0 ≤ cv ∧ cv ≤ 65536 ∧ Hid (fv = frW L0 a j ∧ cv = clW L0 zs dr a j ∧ wr.ownsRow w.heap.size 3 1 (.slice (some ⟨g, 0, none⟩) m cm) m ((wl zs a j L0).map (Value.int .i64)) ∧ Below w.heap.size w wr)) (fun _ _ p _ => nd - (intOf p).toNat)
          case atStart => exact ⟨0, 0, 0, rfl, rfl, rfl, by omega, by omega, by omega, by omega, by omega, rfl, rfl, HR0.out.1, HR0.out.2.1⟩
          case round =>
            obtain ⟨j, fv, cv, rfl, rfl, rfl, hj, f0, f1, k0, k1, HR⟩ := hrel
            have hr0 := HR0.out
            by_cases hlt : j < nd
            · have hlt' : (j : Int) < (nd : Int) := by omega
              have hw1 : IntKind.i64.wrap ((a : Int) + (j : Int)) = ((a + j : Nat) : Int) := by rw [IntKind.wrap_i64]; omega
              have hw2 : IntKind.i64.wrap ((j : Int) + 1) = ((j + 1 : Nat) : Int) := by rw [IntKind.wrap_i64]; omega
              have hw3 : IntKind.i64.wrap (fv + 1) = fv + 1 := by rw [IntKind.wrap_i64]; omega
              have hw4 : IntKind.i64.wrap (cv + 1) = cv + 1 := by rw [IntKind.wrap_i64]; omega
              have hix : ((a + j : Nat) : Int) < (m : Int) := by omega
              have HF1 := frW_step L0 a j
              have HC1 := clW_step L0 zs dr a j
              have HW1 := wl_step zs a L0 j (by omega)
              have hb1 : 0 ≤ frW L0 a (j + 1) ∧ frW L0 a (j + 1) ≤ 65536 := by have := cb_bound (fun i => decide (L0.getD i.toNat 0 < 0)) (a : Int) (j + 1); unfold frW; omega
              have hb2 : 0 ≤ clW L0 zs dr a (j + 1) ∧ clW L0 zs dr a (j + 1) ≤ 65536 := by have := cb_bound (fun i => decide (0 ≤ L0.getD i.toNat 0) && (decide (¬ L0.getD i.toNat 0 = zs.getD (i - (a : Int)).toNat 0) && !dr)) (a : Int) (j + 1); unfold clW; omega
              have HBD : Hid ((0 ≤ frW L0 a (j + 1) ∧ frW L0 a (j + 1) ≤ 65536) ∧ (0 ≤ clW L0 zs dr a (j + 1) ∧ clW L0 zs dr a (j + 1) ≤ 65536)) := ⟨hb1, hb2⟩
              obtain ⟨gd, od, rfl, hzc⟩ := lies_atR (Lies.below HN.out.2.1 HR.out.2.2.2) (i := j) (by rw [HN.out.1]; exact hlt)
              have c2 := hzc j (by rw [HN.out.1]; exact hlt)
              have hzv : 0 ≤ zs.getD j 0 ∧ zs.getD j 0 ≤ 255 := by
                have hjz : j < zs.length := by rw [HN.out.1]; exact hlt
                rw [List.getD_eq_getElem?_getD, List.getElem?_eq_getElem hjz]; exact HN.out.2.2.2 _ (List.getElem_mem hjz)
              have hwz : IntKind.i64.wrap (zs.getD j 0) = zs.getD j 0 := by rw [IntKind.wrap_i64]; omega
              have c1 : wr.cell? ⟨g, a + j, none⟩ = some (.int .i64 (L0.getD (a + j) 0)) := by
                rw [HR.out.2.2.1.cellAt (a + j) (by omega), List.getElem?_map]
                have hll : a + j < (wl zs a j L0).length := by rw [wl_len, hr0.2.2.1]; omega
                rw [List.getElem?_eq_getElem hll]
                have h9 := wl_at zs a L0 j (by omega)
                rw [List.getD_eq_getElem?_getD, List.getElem?_eq_getElem hll] at h9
                simp only [Option.getD_some] at h9
                rw [h9]; rfl
              have c3 : wr.frozen? ⟨g, a + j, none⟩ = false := HR.out.2.2.1.frozenAt (a + j)
              have HS : Hid ((wr.setCell ⟨g, a + j, none⟩ (.int .i64 (zs.getD j 0))).ownsRow w.heap.size 3 1 (.slice (some ⟨g, 0, none⟩) m cm) m (((wl zs a j L0).set (a + j) (zs.getD j 0)).map (Value.int .i64)) ∧ Below w.heap.size w (wr.setCell ⟨g, a + j, none⟩ (.int .i64 (zs.getD j 0)))) := by
                refine ⟨?_, HR.out.2.2.2.setCell (HR.out.2.2.1.lt g rfl).1 _⟩
                have := (World.ownsRow.stored HR.out.2.2.1 (a + j) (.int .i64 (zs.getD j 0))).1
                rw [List.map_set]; exact this
              have HRo := HR.out
              clear hzc hb1 hb2 hr0 HR
              by_cases hneg : L0.getD (a + j) 0 < 0
              · rw [if_pos hneg] at HF1 HW1
                rw [if_neg (fun q => by omega)] at HC1
                have HE : Hid (fv + 1 = frW L0 a (j + 1) ∧ cv = clW L0 zs dr a (j + 1) ∧ (wr.setCell ⟨g, a + j, none⟩ (.int .i64 (zs.getD j 0))).ownsRow w.heap.size 3 1 (.slice (some ⟨g, 0, none⟩) m cm) m ((wl zs a (j + 1) L0).map (Value.int .i64)) ∧ Below w.heap.size w (wr.setCell ⟨g, a + j, none⟩ (.int .i64 (zs.getD j 0)))) := ⟨by rw [HF1, HRo.1], by rw [HC1, HRo.2.1]; omega, by rw [HW1]; exact HS.out.1, HS.out.2⟩
                have hbb : 0 ≤ fv + 1 ∧ fv + 1 ≤ 65536 := by have := HBD.out.1; rw [← HE.out.1] at this; exact this
                have HBB : Hid (0 ≤ fv + 1 ∧ fv + 1 ≤ 65536) := hbb
                clear HF1 HW1 HC1 HS HRo hbb HBD
                generalize L0.getD (a + j) 0 = lv at c1 hneg
                generalize zs.getD j 0 = zv at c2 hzv hwz HE
                go_wp2
                go_roundw
                case rel => exact ⟨j + 1, fv + 1, cv, rfl, rfl, rfl, by omega, HBB.out.1, HBB.out.2, k0, k1, HE.out⟩
                case measure => simp [intOf]; omega
              · rw [if_neg hneg] at HF1 HW1
                have HE : Hid (fv = frW L0 a (j + 1) ∧ wr.ownsRow w.heap.size 3 1 (.slice (some ⟨g, 0, none⟩) m cm) m ((wl zs a (j + 1) L0).map (Value.int .i64)) ∧ Below w.heap.size w wr) := ⟨by rw [HF1, HRo.1]; omega, by rw [HW1]; exact HRo.2.2.1, HRo.2.2.2⟩
                have hQ1 : wr.cell? ⟨Br, 1, none⟩ = some (.bool dr) := cell_below (cell_of_row _ _ 1 _ _ _ HQ1.out) HRo.2.2.2
                by_cases heq : L0.getD (a + j) 0 = zs.getD j 0
                · rw [if_neg (fun q => q.2.1 heq)] at HC1
                  have HE2 : Hid (cv = clW L0 zs dr a (j + 1)) := by unfold Hid; rw [HC1, HRo.2.1]; omega
                  rw [heq] at c1
                  have hng : ¬ (zs.getD j 0 < 0) := by omega
                  clear HF1 HW1 HC1 HS HRo hneg heq HBD
                  generalize zs.getD j 0 = zv at c1 c2 hzv hwz hng
                  go_wp2_with fail
                  go_quiet (fail)
                  go_wp2
                  go_roundw
                  case rel =>
                    have hbe : Below wr.heap.size wr (wr.drewN nq) := below_drewN (Below.refl _ _) _
                    exact ⟨j + 1, fv, cv, rfl, rfl, rfl, by omega, f0, f1, k0, k1, HE.out.1, HE2.out, HE.out.2.1, below_drewN HE.out.2.2 _⟩
                  case measure => simp [intOf]; omega
                · have hne1 : (L0.getD (a + j) 0 != zs.getD j 0) = true := bne_iff_ne.mpr heq
                  cases dr with
                  | true =>
                    rw [if_neg (fun q => by cases q.2.2)] at HC1
                    have HE2 : Hid (cv = clW L0 zs true a (j + 1)) := by unfold Hid; rw [HC1, HRo.2.1]; omega
                    clear HF1 HW1 HC1 HS HRo HBD
                    generalize L0.getD (a + j) 0 = lv at c1 hneg heq hne1
                    generalize zs.getD j 0 = zv at c2 hzv hwz heq hne1
                    go_wp2_with fail
                    go_quiet (fail)
                    go_wp2
                    go_roundw
                    case rel => exact ⟨j + 1, fv, cv, rfl, rfl, rfl, by omega, f0, f1, k0, k1, HE.out.1, HE2.out, HE.out.2.1, below_drewN HE.out.2.2 _⟩
                    case measure => simp [intOf]; omega
                  | false =>
                    rw [if_pos ⟨by omega, heq, rfl⟩] at HC1
                    have HE2 : Hid (cv + 1 = clW L0 zs false a (j + 1)) := by unfold Hid; rw [HC1, HRo.2.1]
                    have hbb : 0 ≤ cv + 1 ∧ cv + 1 ≤ 65536 := by have := HBD.out.2; rw [← HE2.out] at this; exact this
                    have HBB : Hid (0 ≤ cv + 1 ∧ cv + 1 ≤ 65536) := hbb
                    clear HF1 HW1 HC1 HS HRo HBD hbb
                    generalize L0.getD (a + j) 0 = lv at c1 hneg heq hne1
                    generalize zs.getD j 0 = zv at c2 hzv hwz heq hne1
                    go_wp2_with fail
                    go_quiet (fail)
                    go_wp2
                    go_roundw
                    case rel => exact ⟨j + 1, fv, cv + 1, rfl, rfl, rfl, by omega, f0, f1, HBB.out.1, HBB.out.2, HE.out.1, HE2.out, HE.out.2.1, below_drewN HE.out.2.2 _⟩
                    case measure => simp [intOf]; omega
            · obtain rfl : j = nd := by omega
              have hnl2 : ¬ ((j : Int) < (j : Int)) := by omega
              have hsp := spansR_any (some ⟨g, 0, none⟩) m cm (wl zs a j L0) wr (by rw [wl_len, hr0.2.2.1]) (iow_lies HR.out.2.2.1) (by omega)
              have hLn : (wl zs a j L0).length = m := by rw [wl_len, hr0.2.2.1]
              have HX2 : Hid (zs.length = j ∧ P.length = np ∧ L0 = padN P (a + j) ∧ m = max np (a + j)) := ⟨HX.out.2.2, HX.out.2.1, hr0.2.2.2.2.2.1, hr0.2.2.2.2.2.2⟩
              have HRo : Hid (fv = frW L0 a j ∧ cv = clW L0 zs dr a j ∧ IOw wr w.heap.size (.slice (some ⟨g, 0, none⟩) m cm) (wl zs a j L0) ∧ Below w.heap.size w wr) := ⟨HR.out.1, HR.out.2.1, by unfold IOw; rw [hLn]; exact HR.out.2.2.1, HR.out.2.2.2⟩
              clear hr0 HR hLn
              go_wp2_with fail
              refine hsp.mono ?_
              rintro e w5 ⟨v5, out, rfl, ho5, hs5, hb5⟩
              obtain ⟨a5, c5, rfl⟩ := ho5.shape
              have HB5 : Hid (Below w.heap.size w w5 ∧ IOw w5 w.heap.size (.slice (some ⟨g, 0, none⟩) m cm) (wl zs a j L0)) := ⟨HRo.out.2.2.2.trans (hb5.mono HRo.out.2.2.2.size), own_same0 HRo.out.2.2.1 (fun k hk => hb5.block k (HRo.out.2.2.1.lt k hk).2)⟩
              have HSP : Hid (SpR (wl zs (a : Int).toNat zs.length (padN P ((a : Int).toNat + zs.length))) (max P.length ((a : Int).toNat + zs.length)) out) := by
                have hx := HX2.out
                unfold Hid
                rw [hx.1, hx.2.1, show ((a : Int)).toNat = a from by omega, ← hx.2.2.1, ← hx.2.2.2]; exact hs5
              clear hsp ho5 hs5 hb5
              by_cases hbig : 2000 < (out.length : Int)
              · have hbig' : 2000 < out.length := by omega
                have HE : Hid (WtPost P dr (a : Int) zs w (.returned (.tuple #[.slice none 0 0, .int .i64 0, .int .i64 0, .int .i64 3])) w5) := ⟨_, [], 0, 0, 3, rfl, World.ownsRow_nil _ _ _ _, .inr (.inr ⟨HM.out, out, HSP.out, .inl ⟨hbig', rfl, rfl, rfl⟩⟩), HB5.out.1⟩
                clear hbig'
                go_wp2
                refine bodyPost_ret (v := .tuple #[.slice none 0 0, .int .i64 0, .int .i64 0, .int .i64 3]) (by simp [results, Tryd.results52, go_sem]) rfl ?_
                exact HE.out
              · have hbig' : out.length ≤ 2000 := by omega
                have HE : Hid (WtPost P dr (a : Int) zs w (.returned (.tuple #[.slice (some ⟨g, 0, none⟩) m cm, .int .i64 fv, .int .i64 cv, .int .i64 0])) w5) := by
                  have hx := HX2.out
                  have hr := HRo.out
                  refine ⟨_, wl zs a j L0, fv, cv, 0, rfl, HB5.out.2, .inr (.inr ⟨HM.out, out, HSP.out, .inr ⟨hbig', rfl, ?_, ?_, ?_⟩⟩), HB5.out.1⟩
                  · rw [hx.1, show ((a : Int)).toNat = a from by omega, ← hx.2.2.1]; exact hr.1
                  · rw [hx.1, show ((a : Int)).toNat = a from by omega, ← hx.2.2.1]; exact hr.2.1
                  · rw [hx.1, show ((a : Int)).toNat = a from by omega, ← hx.2.2.1]
                clear hbig'
                go_wp2
                refine bodyPost_ret (v := .tuple #[.slice (some ⟨g, 0, none⟩) m cm, .int .i64 fv, .int .i64 cv, .int .i64 0]) (by simp [results, Tryd.results52, go_sem]) rfl ?_
                exact HE.out
    · have HNM : Hid (¬ may4 at' zs) := hmay
      have hnl := HN.out.1
      have hcs : nd = 0 ∨ at' < 0 ∨ 65536 - (nd : Int) < at' := by
        rcases Nat.eq_zero_or_pos nd with q | q
        · exact .inl q
        · rcases Int.lt_or_le at' 0 with r | r
          · exact .inr (.inl r)
          · rcases Int.lt_or_le (65536 - (nd : Int)) at' with t | t
            · exact .inr (.inr t)
            · exact absurd ⟨by omega, by omega, r, by omega⟩ hmay
      have h3 : IntKind.i64.wrap (65536 - (nd : Int)) = 65536 - nd := by rw [IntKind.wrap_i64]; omega
      have HE : Hid (WtPost P dr at' zs w (.returned (.tuple #[.slice none 0 0, .int .i64 0, .int .i64 0, .int .i64 1])) w) := ⟨_, [], 0, 0, 1, rfl, World.ownsRow_nil _ _ _ _, .inr (.inl ⟨by omega, hmay, rfl, rfl, rfl⟩), Below.refl _ _⟩
      clear hmay hnl
      rcases hcs with q | q | q
      · subst q
        go_wp2
        refine bodyPost_ret (v := .tuple #[.slice none 0 0, .int .i64 0, .int .i64 0, .int .i64 1]) (by simp [results, Tryd.results52, go_sem]) rfl ?_
        exact HE.out
      · by_cases q0' : nd = 0
        · subst q0'
          go_wp2
          refine bodyPost_ret (v := .tuple #[.slice none 0 0, .int .i64 0, .int .i64 0, .int .i64 1]) (by simp [results, Tryd.results52, go_sem]) rfl ?_
          exact HE.out
        · have h2' : ((nd : Int) == 0) = false := beq_false_of_ne (by omega)
          clear q0'
          go_wp2
          refine bodyPost_ret (v := .tuple #[.slice none 0 0, .int .i64 0, .int .i64 0, .int .i64 1]) (by simp [results, Tryd.results52, go_sem]) rfl ?_
          exact HE.out
      · by_cases q0' : nd = 0
        · subst q0'
          go_wp2
          refine bodyPost_ret (v := .tuple #[.slice none 0 0, .int .i64 0, .int .i64 0, .int .i64 1]) (by simp [results, Tryd.results52, go_sem]) rfl ?_
          exact HE.out
        · have h2' : ((nd : Int) == 0) = false := beq_false_of_ne (by omega)
          clear q0'
          by_cases r : at' < 0
          · go_wp2
            refine bodyPost_ret (v := .tuple #[.slice none 0 0, .int .i64 0, .int .i64 0, .int .i64 1]) (by simp [results, Tryd.results52, go_sem]) rfl ?_
            exact HE.out
          · go_wp2
            refine bodyPost_ret (v := .tuple #[.slice none 0 0, .int .i64 0, .int .i64 0, .int .i64 1]) (by simp [results, Tryd.results52, go_sem]) rfl ?_
            exact HE.out

end Go.Proofs.YthkphihgdklbbaaDoor.C
