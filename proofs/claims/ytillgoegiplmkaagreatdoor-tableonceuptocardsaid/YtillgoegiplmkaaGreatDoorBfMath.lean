import Derived.Test.YtillgoegiplmkaaGreatDoorClmMath
import Derived.Test.YtillgoegiplmkaaGreatDoorRead
namespace Go.Proofs.YtillgoegiplmkaaGreatDoor.C

abbrev Pq := Sp × Bool

/-! ## How many of a row of places are so -/
def cb (p : Int → Bool) (a : Int) : Nat → Int
  | 0 => 0
  | k + 1 => cb p a k + (if p (a + k) then 1 else 0)
/-- What the pieces that came count. -/
def clp (p : Int → Bool) : List Pq → Int
  | [] => 0
  | x :: r => (if x.2 = true then cb p x.1.1 (x.1.2 - x.1.1).toNat else 0) + clp p r
/-- Each piece lies within. -/
theorem pc_in {hi : Int} : ∀ {l : List Sp} {lo q : Int}, Rt lo l → ∀ x ∈ pc hi q l, q ≤ x.1.1 ∧ x.1.1 < x.1.2 ∧ x.1.2 ≤ hi
  | [], lo, q, _, x, hx => by
    rw [pc] at hx; split at hx
    · simp at hx; subst hx; simp; omega
    · simp at hx
  | y :: r, lo, q, h, x, hx => by
    have g1 := h.1
    have g2 := h.2.1
    revert hx
    refine pc_cases (C := fun L => x ∈ L → q ≤ x.1.1 ∧ x.1.1 < x.1.2 ∧ x.1.2 ≤ hi) (fun c hx => ?_) (fun c c' hx => ?_) (fun c c' hx => ?_)
    · exact pc_in h.2.2.2 x hx
    · rcases List.mem_cons.mp hx with rfl | hx
      · simp only; omega
      · rcases List.mem_cons.mp hx with rfl | hx
        · simp only; omega
        · have := pc_in h.2.2.2 x hx; omega
    · rcases List.mem_cons.mp hx with rfl | hx
      · simp only; omega
      · have := pc_in h.2.2.2 x hx; omega
/-! ## Bytes that are laid over others -/
def over (b zs : List Int) (at' : Int) (s : Sp) : List Int := b.take s.1.toNat ++ ((zs.drop (s.1 - at').toNat).take (s.2 - s.1).toNat ++ b.drop s.2.toNat)
def lay (zs : List Int) (at' : Int) (b : List Int) (pre : List Pq) : List Int := pre.foldl (fun c x => if x.2 = true then c else over c zs at' x.1) b
theorem lay_snoc (zs : List Int) (at' : Int) (b : List Int) (pre : List Pq) (x : Pq) : lay zs at' b (pre ++ [x]) = if x.2 = true then lay zs at' b pre else over (lay zs at' b pre) zs at' x.1 := by
  simp [lay, List.foldl_append]
/-- A piece lies within what is laid and what it is laid over. -/
def Fit (n : Nat) (zs : List Int) (at' : Int) (s : Sp) : Prop := 0 ≤ at' ∧ at' ≤ s.1 ∧ s.1 ≤ s.2 ∧ s.2 ≤ at' + zs.length ∧ at' + zs.length ≤ n
theorem mid_len {n : Nat} {zs : List Int} {at' : Int} {s : Sp} (h : Fit n zs at' s) : ((zs.drop (s.1 - at').toNat).take (s.2 - s.1).toNat).length = (s.2 - s.1).toNat := by
  obtain ⟨h0, h1, h2, h3, h4⟩ := h
  rw [List.length_take, List.length_drop]; omega
theorem over_len {b zs : List Int} {at' : Int} {s : Sp} (h : Fit b.length zs at' s) : (over b zs at' s).length = b.length := by
  have hm := mid_len h
  obtain ⟨h0, h1, h2, h3, h4⟩ := h
  simp only [over, List.length_append, hm, List.length_take, List.length_drop]; omega
theorem over_get {b zs : List Int} {at' : Int} {s : Sp} (h : Fit b.length zs at' s) (i : Nat) : (over b zs at' s).getD i 0 = if s.1 ≤ i ∧ (i : Int) < s.2 then zs.getD (i - at').toNat 0 else b.getD i 0 := by
  have hm := mid_len h
  obtain ⟨h0, h1, h2, h3, h4⟩ := h
  have hl : (b.take s.1.toNat).length = s.1.toNat := by rw [List.length_take]; omega
  simp only [over, List.getD_eq_getElem?_getD]
  by_cases c1 : (i : Int) < s.1
  · rw [List.getElem?_append_left (by omega), List.getElem?_take, if_pos (by omega), if_neg (by omega)]
  · rw [List.getElem?_append_right (by omega), hl]
    by_cases c2 : (i : Int) < s.2
    · rw [List.getElem?_append_left (by omega), List.getElem?_take, if_pos (by omega), List.getElem?_drop, if_pos ⟨by omega, c2⟩]
      rw [show (s.1 - at').toNat + (i - s.1.toNat) = ((i : Int) - at').toNat from by omega]
    · rw [List.getElem?_append_right (by omega), hm, List.getElem?_drop, if_neg (by omega)]
      rw [show s.2.toNat + (i - s.1.toNat - (s.2 - s.1).toNat) = i from by omega]
theorem lay_get {zs : List Int} {at' : Int} : ∀ {pre : List Pq} {b : List Int}, (∀ x ∈ pre, Fit b.length zs at' x.1) → (lay zs at' b pre).length = b.length ∧ ∀ i : Nat, (lay zs at' b pre).getD i 0 = if has (pick false pre) i = true then zs.getD (i - at').toNat 0 else b.getD i 0
  | [], b, _ => ⟨rfl, fun i => by simp [lay, pick, has]⟩
  | x :: r, b, h => by
    have hx := h x (by simp)
    show (lay zs at' (if x.2 = true then b else over b zs at' x.1) r).length = b.length ∧ ∀ i : Nat, (lay zs at' (if x.2 = true then b else over b zs at' x.1) r).getD i 0 = _
    cases hb : x.2 with
    | true =>
      rw [if_pos rfl]
      obtain ⟨l1, l2⟩ := lay_get (pre := r) (b := b) (fun y hy => h y (by simp [hy]))
      refine ⟨l1, fun i => ?_⟩
      rw [l2 i]; simp [pick, hb]
    | false =>
      rw [if_neg (by simp)]
      have hl := over_len hx
      obtain ⟨l1, l2⟩ := lay_get (pre := r) (b := over b zs at' x.1) (fun y hy => by rw [hl]; exact h y (by simp [hy]))
      refine ⟨l1.trans hl, fun i => ?_⟩
      rw [l2 i, over_get hx i]
      have e : pick false (x :: r) = x.1 :: pick false r := by simp [pick, hb]
      rw [e]
      by_cases c : x.1.1 ≤ i ∧ (i : Int) < x.1.2
      · rw [if_pos c, if_pos (has_cons.mpr (.inl c))]; split <;> rfl
      · rw [if_neg c]
        by_cases c2 : has (pick false r) i = true
        · rw [if_pos c2, if_pos (has_cons.mpr (.inr c2))]
        · rw [if_neg c2, if_neg (fun q => (has_cons.mp q).elim c c2)]
theorem over_byte {b zs : List Int} {at' : Int} {s : Sp} (hb : Bytey b) (hz : Bytey zs) : Bytey (over b zs at' s) := by
  intro z hz'
  simp only [over, List.mem_append] at hz'
  rcases hz' with h | h | h
  · exact hb z (List.mem_of_mem_take h)
  · exact hz z (List.mem_of_mem_drop (List.mem_of_mem_take h))
  · exact hb z (List.mem_of_mem_drop h)
theorem lay_byte {zs : List Int} {at' : Int} (hz : Bytey zs) : ∀ {pre : List Pq} {b : List Int}, Bytey b → Bytey (lay zs at' b pre)
  | [], b, h => h
  | x :: r, b, h => by
    show Bytey (lay zs at' (if x.2 = true then b else over b zs at' x.1) r)
    split
    · exact lay_byte hz h
    · exact lay_byte hz (over_byte h hz)

/-- As many bytes as that, zeros behind. -/
def pad (b : List Int) (n : Nat) : List Int := b ++ List.replicate (n - b.length) 0
theorem pad_len (b : List Int) (n : Nat) : (pad b n).length = max b.length n := by simp [pad]; omega
theorem pad_get (b : List Int) (n i : Nat) : (pad b n).getD i 0 = b.getD i 0 := by
  simp only [pad, List.getD_eq_getElem?_getD]
  by_cases h : i < b.length
  · rw [List.getElem?_append_left h]
  · rw [List.getElem?_append_right (by omega), List.getElem?_eq_none (l := b) (by omega), List.getElem?_replicate]; split <;> rfl
theorem pad_byte {b : List Int} {n : Nat} (h : Bytey b) : Bytey (pad b n) := by
  intro z hz
  rcases List.mem_append.mp hz with h' | h'
  · exact h z h'
  · have := (List.mem_replicate.mp h').2; omega

/-! ## A buffer -/
structure Bf where
  l : List Sp
  bs : List Int
  dr : Bool
structure Bf.Ok (b : Bf) : Prop where
  set : IsSet b.l
  byt : Bytey b.bs
  len : b.bs.length ≤ 65536
  top : ∀ s ∈ b.l, s.2 ≤ 65536
  fit : b.dr = false → ∀ s ∈ b.l, s.2 ≤ b.bs.length
  non : b.dr = true → b.bs = []
def dfB (bs zs : List Int) (at' : Int) (i : Int) : Bool := decide (¬ bs.getD i.toNat 0 = zs.getD (i - at').toNat 0)
/-- How many bytes are held otherwise than they come. -/
def clN (b : Bf) (at' : Int) (zs : List Int) : Int := if b.dr = true then 0 else cb (fun i => has b.l i && dfB b.bs zs at' i) at' zs.length
def tkB (b : Bf) (at' : Int) (zs : List Int) : List Int := if b.dr = true then b.bs else lay zs at' (pad b.bs (at' + zs.length).toNat) (pc (at' + zs.length) at' b.l)
/-- May these bytes come there? -/
def may4 (at' : Int) (zs : List Int) : Prop := zs.length ≤ 65536 ∧ 1 ≤ zs.length ∧ 0 ≤ at' ∧ at' + zs.length ≤ 65536
theorem tk_fit {b : Bf} {at' : Int} {zs : List Int} (h : b.Ok) (hm : may4 at' zs) : ∀ x ∈ pc (at' + zs.length) at' b.l, Fit (pad b.bs (at' + zs.length).toNat).length zs at' x.1 := fun x hx => by
  have := pc_in h.set.2 x hx
  obtain ⟨m1, m2, m3, m4⟩ := hm
  rw [pad_len]
  exact ⟨m3, by omega, by omega, by omega, by omega⟩
theorem tk_len {b : Bf} {at' : Int} {zs : List Int} (h : b.Ok) (hd : b.dr = false) (hm : may4 at' zs) : (tkB b at' zs).length = max b.bs.length (at' + zs.length).toNat := by
  rw [tkB, if_neg (by simp [hd]), (lay_get (tk_fit h hm)).1, pad_len]
theorem tk_get {b : Bf} {at' : Int} {zs : List Int} (h : b.Ok) (hd : b.dr = false) (hm : may4 at' zs) (i : Nat) : (tkB b at' zs).getD i 0 = if (at' ≤ i ∧ (i : Int) < at' + zs.length) ∧ has b.l i = false then zs.getD (i - at').toNat 0 else b.bs.getD i 0 := by
  rw [tkB, if_neg (by simp [hd]), (lay_get (tk_fit h hm)).2 i, pad_get, has_false h.set.2]
  by_cases c : at' ≤ i ∧ (i : Int) < at' + zs.length
  · rw [show inn (at', at' + (zs.length : Int)) i = true from inn_iff.mpr c]
    cases has b.l i <;> simp [c]
  · rw [show inn (at', at' + (zs.length : Int)) i = false from inn_off.mpr c]
    simp [c]
/-- What a Put makes of a buffer, if the set of what came is u then. -/
def putB (b : Bf) (at' : Int) (zs : List Int) (u : List Sp) : Bf := ⟨u, tkB b at' zs, b.dr⟩
end Go.Proofs.YtillgoegiplmkaaGreatDoor.C
