import Derived.Test.YthkphihgdklbbaaDoorClmMath
import Derived.Test.YthkphihgdklbbaaDoorRead
namespace Go.Proofs.YthkphihgdklbbaaDoor.C

abbrev Pq := Sp × Bool

/-! ## How many of a row of places are so -/
def cb (p : Int → Bool) (a : Int) : Nat → Int
  | 0 => 0
  | k + 1 => cb p a k + (if p (a + k) then 1 else 0)
theorem cb_add (p : Int → Bool) (a : Int) (k : Nat) : ∀ m, cb p a (k + m) = cb p a k + cb p (a + k) m
  | 0 => by simp [cb]
  | m + 1 => by
    rw [← Nat.add_assoc]
    simp only [cb, cb_add p a k m]
    rw [show a + ((k + m : Nat) : Int) = a + (k : Int) + (m : Int) from by omega]; omega
theorem cb_congr {p q : Int → Bool} {a : Int} : ∀ {k : Nat}, (∀ i : Int, a ≤ i → i < a + k → p i = q i) → cb p a k = cb q a k
  | 0, _ => rfl
  | k + 1, h => by
    simp only [cb]
    rw [cb_congr (fun i h1 h2 => h i h1 (by omega)), h (a + k) (by omega) (by omega)]
theorem cb_none {p : Int → Bool} {a : Int} {k : Nat} (h : ∀ i : Int, a ≤ i → i < a + k → p i = false) : cb p a k = 0 := by
  have e : ∀ k : Nat, cb (fun _ => false) a k = 0 := fun k => by
    induction k with
    | zero => rfl
    | succ k ih => simp [cb, ih]
  rw [cb_congr (q := fun _ => false) h, e]
theorem cb_bound (p : Int → Bool) (a : Int) : ∀ k : Nat, 0 ≤ cb p a k ∧ cb p a k ≤ k
  | 0 => by simp [cb]
  | k + 1 => by have := cb_bound p a k; simp only [cb]; split <;> omega
theorem cb_split {p : Int → Bool} {a b c : Int} (h1 : a ≤ b) (h2 : b ≤ c) : cb p a (c - a).toNat = cb p a (b - a).toNat + cb p b (c - b).toNat := by
  rw [show (c - a).toNat = (b - a).toNat + (c - b).toNat from by omega, cb_add, show a + (((b - a).toNat : Nat) : Int) = b from by omega]

/-- What the pieces that came count. -/
def clp (p : Int → Bool) : List Pq → Int
  | [] => 0
  | x :: r => (if x.2 = true then cb p x.1.1 (x.1.2 - x.1.1).toNat else 0) + clp p r
theorem clp_append (p : Int → Bool) (a b : List Pq) : clp p (a ++ b) = clp p a + clp p b := by
  induction a with
  | nil => simp [clp]
  | cons x r ih => simp only [List.cons_append, clp, ih]; omega
theorem clp_snoc (p : Int → Bool) (a : List Pq) (x : Pq) : clp p (a ++ [x]) = clp p a + (if x.2 = true then cb p x.1.1 (x.1.2 - x.1.1).toNat else 0) := by
  rw [clp_append]; simp [clp]
theorem clp_pc {p : Int → Bool} {hi : Int} : ∀ {l : List Sp} {lo q : Int}, Rt lo l → q ≤ hi → clp p (pc hi q l) = cb (fun i => has l i && p i) q (hi - q).toNat
  | [], lo, q, _, hq => by
    rw [cb_none (fun i _ _ => by simp [has])]
    rw [pc]; split <;> simp [clp]
  | x :: r, lo, q, h, hq => by
    have g1 := h.1
    have g2 := h.2.1
    have hr : ∀ i : Int, i ≤ x.2 → has r i = false := fun i hi => has_out h.2.2.2 (by omega)
    refine pc_cases (C := fun L => clp p L = cb (fun i => has (x :: r) i && p i) q (hi - q).toNat) (fun c => ?_) (fun c c' => ?_) (fun c c' => ?_)
    · rw [clp_pc h.2.2.2 hq]
      apply cb_congr
      intro i i1 i2
      have : inn x i = false := inn_off.mpr (by omega)
      simp [has, this]
    · simp only [clp, reduceCtorEq, if_false, if_true]
      rw [clp_pc h.2.2.2 (by omega), cb_split (a := q) (b := x.1) (c := hi) (by omega) (by omega), cb_split (a := x.1) (b := min x.2 hi) (c := hi) (by omega) (by omega)]
      have e1 : cb (fun i => has (x :: r) i && p i) q (x.1 - q).toNat = 0 := cb_none (fun i i1 i2 => by
        have a1 : inn x i = false := inn_off.mpr (by omega)
        simp [has, a1, hr i (by omega)])
      have e2 : cb (fun i => has (x :: r) i && p i) x.1 (min x.2 hi - x.1).toNat = cb p x.1 (min x.2 hi - x.1).toNat := cb_congr (fun i i1 i2 => by
        have a1 : inn x i = true := inn_iff.mpr (by omega)
        simp [has, a1])
      have e3 : cb (fun i => has (x :: r) i && p i) (min x.2 hi) (hi - min x.2 hi).toNat = cb (fun i => has r i && p i) (min x.2 hi) (hi - min x.2 hi).toNat := cb_congr (fun i i1 i2 => by
        have a1 : inn x i = false := inn_off.mpr (by omega)
        simp [has, a1])
      rw [e1, e2, e3]
    · simp only [clp, if_true]
      rw [clp_pc h.2.2.2 (by omega), cb_split (a := q) (b := min x.2 hi) (c := hi) (by omega) (by omega)]
      have e2 : cb (fun i => has (x :: r) i && p i) q (min x.2 hi - q).toNat = cb p q (min x.2 hi - q).toNat := cb_congr (fun i i1 i2 => by
        have a1 : inn x i = true := inn_iff.mpr (by omega)
        simp [has, a1])
      have e3 : cb (fun i => has (x :: r) i && p i) (min x.2 hi) (hi - min x.2 hi).toNat = cb (fun i => has r i && p i) (min x.2 hi) (hi - min x.2 hi).toNat := cb_congr (fun i i1 i2 => by
        have a1 : inn x i = false := inn_off.mpr (by omega)
        simp [has, a1])
      rw [e2, e3]

theorem clp_bound {p : Int → Bool} {M : Nat} : ∀ {pre : List Pq}, (∀ x ∈ pre, x.1.2 - x.1.1 ≤ M) → 0 ≤ clp p pre ∧ clp p pre ≤ pre.length * M
  | [], _ => by simp [clp]
  | x :: r, h => by
    have h1 := clp_bound (p := p) (pre := r) (fun y hy => h y (by simp [hy]))
    have h2 := h x (by simp)
    have h3 := cb_bound p x.1.1 (x.1.2 - x.1.1).toNat
    simp only [clp, List.length_cons]
    rw [show ((r.length + 1 : Nat) : Int) * (M : Int) = (r.length : Int) * M + M from by rw [Int.natCast_add, Int.add_mul]; simp]
    split <;> omega

/-- Each piece lies within. -/
theorem pc_in {hi : Int} : ∀ {l : List Sp} {lo q : Int}, Rt lo l → ∀ x ∈ pc hi q l, q ≤ x.1.1 ∧ x.1.1 < x.1.2 ∧ x.1.2 ≤ hi
  | [], lo, q, _, x, hx => by
    rw [pc] at hx; split at hx
    · simp at hx; subst hx; simp; omega
    · simp at hx
  | y :: r, lo, q, h, x, hx => by
    have g1 := h.1
    have g2 := h.2.1
    revert hx
    refine pc_cases (C := fun L => x ∈ L → q ≤ x.1.1 ∧ x.1.1 < x.1.2 ∧ x.1.2 ≤ hi) (fun c hx => ?_) (fun c c' hx => ?_) (fun c c' hx => ?_)
    · exact pc_in h.2.2.2 x hx
    · rcases List.mem_cons.mp hx with rfl | hx
      · simp only; omega
      · rcases List.mem_cons.mp hx with rfl | hx
        · simp only; omega
        · have := pc_in h.2.2.2 x hx; omega
    · rcases List.mem_cons.mp hx with rfl | hx
      · simp only; omega
      · have := pc_in h.2.2.2 x hx; omega
/-- What is said to have come has come. -/
theorem pc_true {hi : Int} {l : List Sp} {lo q : Int} (h : Rt lo l) {x : Pq} (hx : x ∈ pc hi q l) (ht : x.2 = true) : ∀ i : Int, x.1.1 ≤ i → i < x.1.2 → has l i = true := by
  intro i i1 i2
  have hm : x.1 ∈ pick true (pc hi q l) := by
    have : ∀ L : List Pq, x ∈ L → x.1 ∈ pick true L := fun L => by
      induction L with
      | nil => simp
      | cons y r ih =>
        intro hy
        rcases List.mem_cons.mp hy with rfl | hy
        · simp [pick, ht]
        · simp only [pick]; split
          · exact List.mem_cons_of_mem _ (ih hy)
          · exact ih hy
    exact this _ hx
  have h1 : has (pick true (pc hi q l)) i = true := has_mem.mpr ⟨x.1, hm, i1, i2⟩
  rw [has_true h] at h1
  exact (Bool.and_eq_true _ _ ▸ h1).2

/-! ## Bytes that are laid over others -/
def over (b zs : List Int) (at' : Int) (s : Sp) : List Int := b.take s.1.toNat ++ ((zs.drop (s.1 - at').toNat).take (s.2 - s.1).toNat ++ b.drop s.2.toNat)
def lay (zs : List Int) (at' : Int) (b : List Int) (pre : List Pq) : List Int := pre.foldl (fun c x => if x.2 = true then c else over c zs at' x.1) b
theorem lay_snoc (zs : List Int) (at' : Int) (b : List Int) (pre : List Pq) (x : Pq) : lay zs at' b (pre ++ [x]) = if x.2 = true then lay zs at' b pre else over (lay zs at' b pre) zs at' x.1 := by
  simp [lay, List.foldl_append]
/-- A piece lies within what is laid and what it is laid over. -/
def Fit (n : Nat) (zs : List Int) (at' : Int) (s : Sp) : Prop := 0 ≤ at' ∧ at' ≤ s.1 ∧ s.1 ≤ s.2 ∧ s.2 ≤ at' + zs.length ∧ at' + zs.length ≤ n
theorem mid_len {n : Nat} {zs : List Int} {at' : Int} {s : Sp} (h : Fit n zs at' s) : ((zs.drop (s.1 - at').toNat).take (s.2 - s.1).toNat).length = (s.2 - s.1).toNat := by
  obtain ⟨h0, h1, h2, h3, h4⟩ := h
  rw [List.length_take, List.length_drop]; omega
theorem over_len {b zs : List Int} {at' : Int} {s : Sp} (h : Fit b.length zs at' s) : (over b zs at' s).length = b.length := by
  have hm := mid_len h
  obtain ⟨h0, h1, h2, h3, h4⟩ := h
  simp only [over, List.length_append, hm, List.length_take, List.length_drop]; omega
theorem over_get {b zs : List Int} {at' : Int} {s : Sp} (h : Fit b.length zs at' s) (i : Nat) : (over b zs at' s).getD i 0 = if s.1 ≤ i ∧ (i : Int) < s.2 then zs.getD (i - at').toNat 0 else b.getD i 0 := by
  have hm := mid_len h
  obtain ⟨h0, h1, h2, h3, h4⟩ := h
  have hl : (b.take s.1.toNat).length = s.1.toNat := by rw [List.length_take]; omega
  simp only [over, List.getD_eq_getElem?_getD]
  by_cases c1 : (i : Int) < s.1
  · rw [List.getElem?_append_left (by omega), List.getElem?_take, if_pos (by omega), if_neg (by omega)]
  · rw [List.getElem?_append_right (by omega), hl]
    by_cases c2 : (i : Int) < s.2
    · rw [List.getElem?_append_left (by omega), List.getElem?_take, if_pos (by omega), List.getElem?_drop, if_pos ⟨by omega, c2⟩]
      rw [show (s.1 - at').toNat + (i - s.1.toNat) = ((i : Int) - at').toNat from by omega]
    · rw [List.getElem?_append_right (by omega), hm, List.getElem?_drop, if_neg (by omega)]
      rw [show s.2.toNat + (i - s.1.toNat - (s.2 - s.1).toNat) = i from by omega]
theorem has_pick_snoc (b : Bool) (pre : List Pq) (x : Pq) (i : Int) : has (pick b (pre ++ [x])) i = (has (pick b pre) i || (decide (x.2 = b) && inn x.1 i)) := by
  rw [pick_append, has_append]
  simp only [pick]
  split
  · rename_i h; simp [h, has]
  · rename_i h; simp [h, has]
theorem lay_get {zs : List Int} {at' : Int} : ∀ {pre : List Pq} {b : List Int}, (∀ x ∈ pre, Fit b.length zs at' x.1) → (lay zs at' b pre).length = b.length ∧ ∀ i : Nat, (lay zs at' b pre).getD i 0 = if has (pick false pre) i = true then zs.getD (i - at').toNat 0 else b.getD i 0
  | [], b, _ => ⟨rfl, fun i => by simp [lay, pick, has]⟩
  | x :: r, b, h => by
    have hx := h x (by simp)
    show (lay zs at' (if x.2 = true then b else over b zs at' x.1) r).length = b.length ∧ ∀ i : Nat, (lay zs at' (if x.2 = true then b else over b zs at' x.1) r).getD i 0 = _
    cases hb : x.2 with
    | true =>
      rw [if_pos rfl]
      obtain ⟨l1, l2⟩ := lay_get (pre := r) (b := b) (fun y hy => h y (by simp [hy]))
      refine ⟨l1, fun i => ?_⟩
      rw [l2 i]; simp [pick, hb]
    | false =>
      rw [if_neg (by simp)]
      have hl := over_len hx
      obtain ⟨l1, l2⟩ := lay_get (pre := r) (b := over b zs at' x.1) (fun y hy => by rw [hl]; exact h y (by simp [hy]))
      refine ⟨l1.trans hl, fun i => ?_⟩
      rw [l2 i, over_get hx i]
      have e : pick false (x :: r) = x.1 :: pick false r := by simp [pick, hb]
      rw [e]
      by_cases c : x.1.1 ≤ i ∧ (i : Int) < x.1.2
      · rw [if_pos c, if_pos (has_cons.mpr (.inl c))]; split <;> rfl
      · rw [if_neg c]
        by_cases c2 : has (pick false r) i = true
        · rw [if_pos c2, if_pos (has_cons.mpr (.inr c2))]
        · rw [if_neg c2, if_neg (fun q => (has_cons.mp q).elim c c2)]
theorem over_byte {b zs : List Int} {at' : Int} {s : Sp} (hb : Bytey b) (hz : Bytey zs) : Bytey (over b zs at' s) := by
  intro z hz'
  simp only [over, List.mem_append] at hz'
  rcases hz' with h | h | h
  · exact hb z (List.mem_of_mem_take h)
  · exact hz z (List.mem_of_mem_drop (List.mem_of_mem_take h))
  · exact hb z (List.mem_of_mem_drop h)
theorem lay_byte {zs : List Int} {at' : Int} (hz : Bytey zs) : ∀ {pre : List Pq} {b : List Int}, Bytey b → Bytey (lay zs at' b pre)
  | [], b, h => h
  | x :: r, b, h => by
    show Bytey (lay zs at' (if x.2 = true then b else over b zs at' x.1) r)
    split
    · exact lay_byte hz h
    · exact lay_byte hz (over_byte h hz)

/-- As many bytes as that, zeros behind. -/
def pad (b : List Int) (n : Nat) : List Int := b ++ List.replicate (n - b.length) 0
theorem pad_len (b : List Int) (n : Nat) : (pad b n).length = max b.length n := by simp [pad]; omega
theorem pad_get (b : List Int) (n i : Nat) : (pad b n).getD i 0 = b.getD i 0 := by
  simp only [pad, List.getD_eq_getElem?_getD]
  by_cases h : i < b.length
  · rw [List.getElem?_append_left h]
  · rw [List.getElem?_append_right (by omega), List.getElem?_eq_none (l := b) (by omega), List.getElem?_replicate]; split <;> rfl
theorem pad_byte {b : List Int} {n : Nat} (h : Bytey b) : Bytey (pad b n) := by
  intro z hz
  rcases List.mem_append.mp hz with h' | h'
  · exact h z h'
  · have := (List.mem_replicate.mp h').2; omega

/-! ## A buffer -/
structure Bf where
  l : List Sp
  bs : List Int
  dr : Bool
structure Bf.Ok (b : Bf) : Prop where
  set : IsSet b.l
  byt : Bytey b.bs
  len : b.bs.length ≤ 65536
  top : ∀ s ∈ b.l, s.2 ≤ 65536
  fit : b.dr = false → ∀ s ∈ b.l, s.2 ≤ b.bs.length
  non : b.dr = true → b.bs = []
def dfB (bs zs : List Int) (at' : Int) (i : Int) : Bool := decide (¬ bs.getD i.toNat 0 = zs.getD (i - at').toNat 0)
/-- How many bytes are held otherwise than they come. -/
def clN (b : Bf) (at' : Int) (zs : List Int) : Int := if b.dr = true then 0 else cb (fun i => has b.l i && dfB b.bs zs at' i) at' zs.length
def tkB (b : Bf) (at' : Int) (zs : List Int) : List Int := if b.dr = true then b.bs else lay zs at' (pad b.bs (at' + zs.length).toNat) (pc (at' + zs.length) at' b.l)
/-- May these bytes come there? -/
def may4 (at' : Int) (zs : List Int) : Prop := zs.length ≤ 65536 ∧ 1 ≤ zs.length ∧ 0 ≤ at' ∧ at' + zs.length ≤ 65536
theorem Bf.Ok.hi {b : Bf} (h : b.Ok) {i : Int} (hi : has b.l i = true) : 0 ≤ i ∧ i < 65536 ∧ (b.dr = false → i < b.bs.length) := by
  obtain ⟨s, hs, h1, h2⟩ := has_mem.mp hi
  have := h.set.2.low hi
  have := h.top s hs
  exact ⟨by omega, by omega, fun hd => by have := h.fit hd s hs; omega⟩
theorem tk_fit {b : Bf} {at' : Int} {zs : List Int} (h : b.Ok) (hm : may4 at' zs) : ∀ x ∈ pc (at' + zs.length) at' b.l, Fit (pad b.bs (at' + zs.length).toNat).length zs at' x.1 := fun x hx => by
  have := pc_in h.set.2 x hx
  obtain ⟨m1, m2, m3, m4⟩ := hm
  rw [pad_len]
  exact ⟨m3, by omega, by omega, by omega, by omega⟩
theorem tk_len {b : Bf} {at' : Int} {zs : List Int} (h : b.Ok) (hd : b.dr = false) (hm : may4 at' zs) : (tkB b at' zs).length = max b.bs.length (at' + zs.length).toNat := by
  rw [tkB, if_neg (by simp [hd]), (lay_get (tk_fit h hm)).1, pad_len]
theorem tk_get {b : Bf} {at' : Int} {zs : List Int} (h : b.Ok) (hd : b.dr = false) (hm : may4 at' zs) (i : Nat) : (tkB b at' zs).getD i 0 = if (at' ≤ i ∧ (i : Int) < at' + zs.length) ∧ has b.l i = false then zs.getD (i - at').toNat 0 else b.bs.getD i 0 := by
  rw [tkB, if_neg (by simp [hd]), (lay_get (tk_fit h hm)).2 i, pad_get, has_false h.set.2]
  by_cases c : at' ≤ i ∧ (i : Int) < at' + zs.length
  · rw [show inn (at', at' + (zs.length : Int)) i = true from inn_iff.mpr c]
    cases has b.l i <;> simp [c]
  · rw [show inn (at', at' + (zs.length : Int)) i = false from inn_off.mpr c]
    simp [c]
/-- What a Put makes of a buffer, if the set of what came is u then. -/
def putB (b : Bf) (at' : Int) (zs : List Int) (u : List Sp) : Bf := ⟨u, tkB b at' zs, b.dr⟩
theorem put_ok {b : Bf} {at' : Int} {zs : List Int} {u : List Sp} (h : b.Ok) (hz : Bytey zs) (hm : may4 at' zs) (hu : Uni b.l [(at', at' + (zs.length : Int))] u) (hl : u.length ≤ 2000) : (putB b at' zs u).Ok := by
  have htop : ∀ s ∈ u, ∃ i, has u i = true ∧ s.2 = i + 1 := fun s hs => by
    have := hu.rt.mem s hs
    exact ⟨s.2 - 1, has_mem.mpr ⟨s, hs, by omega, by omega⟩, by omega⟩
  obtain ⟨m1, m2, m3, m4⟩ := id hm
  have hor : ∀ i, has u i = true → has b.l i = true ∨ (at' ≤ i ∧ i < at' + zs.length) := fun i hi => by
    rw [hu.all, Bool.or_eq_true] at hi
    rcases hi with hi | hi
    · exact .inl hi
    · exact .inr (by simpa [has, inn] using hi)
  refine ⟨⟨hl, hu.rt⟩, ?_, ?_, fun s hs => ?_, fun hd s hs => ?_, fun hd => ?_⟩
  · show Bytey (tkB b at' zs)
    unfold tkB; split
    · exact h.byt
    · exact lay_byte hz (pad_byte h.byt)
  · show (tkB b at' zs).length ≤ 65536
    cases hd : b.dr with
    | true => unfold tkB; rw [if_pos hd]; exact h.len
    | false => rw [tk_len h hd hm]; have := h.len; omega
  · obtain ⟨i, hi, he⟩ := htop s hs
    rcases hor i hi with h' | h'
    · have := h.hi h'; omega
    · omega
  · have hd' : b.dr = false := hd
    show s.2 ≤ ((tkB b at' zs).length : Int)
    rw [tk_len h hd' hm]
    obtain ⟨i, hi, he⟩ := htop s hs
    rcases hor i hi with h' | h'
    · have := (h.hi h').2.2 hd'; omega
    · omega
  · show tkB b at' zs = []
    have hd' : b.dr = true := hd
    unfold tkB; rw [if_pos hd']; exact h.non hd'

end Go.Proofs.YthkphihgdklbbaaDoor.C
