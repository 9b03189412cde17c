import Derived.Test.YtcefemblcifogajTmDrp
import Derived.Test.YtcefemblcifogajTmSm
namespace Go.Proofs.Ytcefemblcifogaj
open Go.RowKit Go.Maps
set_option linter.unusedVariables false

/-! ## A session's timers alone, and beside others -/
structure AB (La Lb : Tl) : Prop where
  mem : ∀ k c, (k, c) ∈ La ↔ ((k, c) ∈ Lb ∧ sesB 9 9 k = true)
theorem AB.nil : AB [] [] := ⟨fun k c => by simp⟩
theorem AB.both {La Lb : Tl} {k : Kx} {n : Int} (h : AB La Lb) (hk : sesB 9 9 k = true) : AB (putT La k n) (putT Lb k n) := by
  refine ⟨fun x c => ?_⟩
  rw [mem_putT, mem_putT, h.mem]
  constructor
  · rintro (⟨rfl, rfl⟩ | ⟨⟨h1, h2⟩, h3⟩)
    · exact ⟨.inl ⟨rfl, rfl⟩, hk⟩
    · exact ⟨.inr ⟨h1, h3⟩, h2⟩
  · rintro ⟨⟨rfl, rfl⟩ | ⟨h1, h2⟩, h3⟩
    · exact .inl ⟨rfl, rfl⟩
    · exact .inr ⟨⟨h1, h3⟩, h2⟩
theorem AB.other {La Lb : Tl} {k : Kx} {n : Int} (h : AB La Lb) (hk : sesB 9 9 k = false) : AB La (putT Lb k n) := by
  refine ⟨fun x c => ?_⟩
  rw [mem_putT, h.mem]
  constructor
  · rintro ⟨h1, h2⟩
    exact ⟨.inr ⟨h1, fun e => by rw [e, hk] at h2; cases h2⟩, h2⟩
  · rintro ⟨⟨rfl, rfl⟩ | ⟨h1, _⟩, h3⟩
    · rw [hk] at h3; cases h3
    · exact ⟨h1, h3⟩
theorem AB.stop {La Lb : Tl} {k : Kx} (h : AB La Lb) (hk : sesB 9 9 k = false) : AB La (delT Lb k) := by
  refine ⟨fun x c => ?_⟩
  rw [mem_delT, h.mem]
  constructor
  · rintro ⟨h1, h2⟩
    exact ⟨⟨h1, fun e => by have e' : x = k := e; rw [e', hk] at h2; cases h2⟩, h2⟩
  · rintro ⟨⟨h1, _⟩, h3⟩
    exact ⟨h1, h3⟩
theorem AB.drop {La Lb : Tl} {s1 s2 : Int} (h : AB La Lb) (hs : ¬ (s1 = 9 ∧ s2 = 9)) : AB La (notS s1 s2 Lb) := by
  refine ⟨fun x c => ?_⟩
  simp only [notS, List.mem_filter, Bool.not_eq_true']
  rw [h.mem]
  constructor
  · rintro ⟨h1, h2⟩
    refine ⟨⟨h1, ?_⟩, h2⟩
    cases e : sesB s1 s2 x
    · rfl
    · have e1 := of_decide_eq_true e
      have e2 := of_decide_eq_true h2
      exact absurd ⟨by rw [← e1.1]; exact e2.1, by rw [← e1.2]; exact e2.2⟩ hs
  · rintro ⟨⟨h1, _⟩, h3⟩
    exact ⟨h1, h3⟩
theorem AB.tick {La Lb : Tl} (h : AB La Lb) : AB (tickT La []) (tickT Lb []) := by
  refine ⟨fun x c => ?_⟩
  rw [tickT_mem, tickT_mem, h.mem, h.mem]
  simp
  constructor
  · rintro ⟨⟨h1, h2⟩, h3⟩; exact ⟨⟨h1, h3⟩, h2⟩
  · rintro ⟨⟨h1, h3⟩, h2⟩; exact ⟨⟨h1, h2⟩, h3⟩
def onlyM (l : List Kx) : List Kx := l.filter fun k => sesB 9 9 k
theorem AB.out {La Lb : Tl} (h : AB La Lb) (ha : (La.map Prod.fst).Nodup) (hb : (Lb.map Prod.fst).Nodup) : onlyM (srtK (outS Lb [])) = srtK (outS La []) := by
  have n1 : (srtK (outS La [])).Nodup := srtK_nd.mpr (outS_nd [] ha)
  have n2 : (onlyM (srtK (outS Lb []))).Nodup := List.Nodup.sublist List.filter_sublist (srtK_nd.mpr (outS_nd [] hb))
  refine perm_sorted ltK levelK _ _ ?_ (List.Pairwise.sublist List.filter_sublist (srtK_sorted _)) (srtK_sorted _)
  rw [List.perm_ext_iff_of_nodup n2 n1]
  intro k
  simp only [onlyM, List.mem_filter, srtK_mem, outS_mem]
  rw [h.mem]
  simp
theorem AB.perm {La Lb : Tl} (h : AB La Lb) (ha : (La.map Prod.fst).Nodup) (hb : (Lb.map Prod.fst).Nodup) : La.Perm (Lb.filter fun x => sesB 9 9 x.1) := by
  have n2 : (Lb.filter fun x => sesB 9 9 x.1).Nodup := List.Nodup.sublist List.filter_sublist (nd_fst hb)
  rw [List.perm_ext_iff_of_nodup (nd_fst ha) n2]
  rintro ⟨k, c⟩
  rw [h.mem]
  simp
theorem split_len {α : Type} (f : α → Bool) : ∀ l : List α, (l.filter f).length + (l.filter fun x => !f x).length = l.length
  | [] => rfl
  | x :: r => by
    have := split_len f r
    cases e : f x <;> simp [e] <;> omega
theorem AB.count {La Lb : Tl} (h : AB La Lb) (ha : (La.map Prod.fst).Nodup) (hb : (Lb.map Prod.fst).Nodup) : (Lb.length : Int) - ((notS 9 9 Lb).length : Int) = (La.length : Int) := by
  have h1 := split_len (fun x : Kx × Int => sesB 9 9 x.1) Lb
  have h2 := (h.perm ha hb).length_eq
  unfold notS
  omega
theorem AB.le {La Lb : Tl} (h : AB La Lb) (ha : (La.map Prod.fst).Nodup) (hb : (Lb.map Prod.fst).Nodup) : La.length ≤ Lb.length := by
  rw [(h.perm ha hb).length_eq]; exact List.length_filter_le _ _
/-- A key of the one session. -/
def mnK (k : Kx) : Kx := (k.1, 9, 9, k.2.2.2.1, k.2.2.2.2)
def okK (k : Kx) : Prop := smallK k ∨ ∃ k', smallK k' ∧ k = mnK k'
def code2 (k : Kx) : Nat := if k.2.1 = 9 then 432 + (((k.1 - 1) * 4 + (k.2.2.2.1 - 1)) * 4 + k.2.2.2.2).toNat else codeK k
theorem code2_lt {k : Kx} (h : okK k) : code2 k < 480 := by
  rcases h with h | ⟨k', h, rfl⟩
  · have := code_lt h
    unfold smallK at h
    unfold code2
    rw [if_neg (by omega)]
    omega
  · unfold smallK at h
    unfold code2 mnK
    simp only [if_true]
    omega
theorem code2_inj {k k' : Kx} (h : okK k) (h' : okK k') (e : code2 k = code2 k') : k = k' := by
  rcases h with h | ⟨j, h, rfl⟩ <;> rcases h' with h' | ⟨j', h', rfl⟩
  · have h1 := h
    have h2 := h'
    unfold smallK at h1 h2
    unfold code2 at e
    rw [if_neg (by omega), if_neg (by omega)] at e
    exact code_inj h h' e
  · have h3 := code_lt h
    unfold smallK at h
    unfold code2 mnK at e
    rw [if_neg (by omega)] at e
    simp only [if_true] at e
    omega
  · have h3 := code_lt h'
    unfold smallK at h'
    unfold code2 mnK at e
    simp only [if_true] at e
    rw [if_neg (by omega)] at e
    omega
  · unfold smallK at h h'
    unfold code2 mnK at e
    simp only [if_true] at e
    obtain ⟨y0, y1, y2, y3, y4⟩ := j
    obtain ⟨z0, z1, z2, z3, z4⟩ := j'
    simp only at h h' e
    have e2 : ((y0 - 1) * 4 + (y3 - 1)) * 4 + y4 = ((z0 - 1) * 4 + (z3 - 1)) * 4 + z4 := by omega
    have f1 : y0 = z0 := by omega
    have f2 : y3 = z3 := by omega
    have f3 : y4 = z4 := by omega
    unfold mnK
    simp only [f1, f2, f3]
theorem ok_len {L : Tl} (hn : (L.map Prod.fst).Nodup) (h : ∀ x ∈ L, okK x.1) : L.length ≤ 480 := by
  have := nd_code code2 480 (L.map Prod.fst) hn (fun x hx y hy e => by
    obtain ⟨x', hx', rfl⟩ := List.mem_map.mp hx
    obtain ⟨y', hy', rfl⟩ := List.mem_map.mp hy
    exact code2_inj (h _ hx') (h _ hy') e) (fun x hx => by
    obtain ⟨x', hx', rfl⟩ := List.mem_map.mp hx
    exact code2_lt (h _ hx'))
  simpa using this
theorem ok_put {L : Tl} (h : ∀ x ∈ L, okK x.1) {k : Kx} {n : Int} (hk : okK k) : ∀ x ∈ putT L k n, okK x.1 := by
  rintro ⟨x, c⟩ hx
  rcases mem_putT.mp hx with ⟨rfl, _⟩ | ⟨h1, _⟩
  · exact hk
  · exact h _ h1
theorem ok_sub {L L' : Tl} (h : ∀ x ∈ L, okK x.1) (hs : ∀ x ∈ L', ∃ c, (x.1, c) ∈ L) : ∀ x ∈ L', okK x.1 := fun x hx => by
  obtain ⟨c, hc⟩ := hs x hx
  exact h (x.1, c) hc
theorem ok_tick {L : Tl} (h : ∀ x ∈ L, okK x.1) : ∀ x ∈ tickT L [], okK x.1 := ok_sub h (fun x hx => by
  obtain ⟨k, c⟩ := x
  rcases tickT_mem.mp hx with ⟨h1, _⟩ | ⟨_, h1, _⟩
  · simp at h1
  · exact ⟨_, h1⟩)
theorem okK.kW {k : Kx} (h : okK k) : kW k := by
  rcases h with h | ⟨k', h, rfl⟩
  · exact h.kW
  · obtain ⟨h1, h2, h3, h4, h5⟩ := h
    have a1 : kI k'.1 = true := kI_of (by omega)
    have a2 : kI k'.2.2.2.1 = true := kI_of (by omega)
    have a3 : kI k'.2.2.2.2 = true := kI_of (by omega)
    exact ⟨a1, (show kI 9 = true by decide), (show kI 9 = true by decide), a2, a3⟩
theorem mn_may {k : Kx} (h : smallK k) : mayK (mnK k) := by
  unfold smallK at h
  unfold mayK mnK
  simp only
  omega
theorem small_may {k : Kx} (h : smallK k) : mayK k := by
  unfold smallK at h
  unfold mayK
  omega
theorem mn_ses (k : Kx) : sesB 9 9 (mnK k) = true := rfl
theorem small_ses {k : Kx} (h : smallK k) : sesB 9 9 k = false := by
  unfold smallK at h
  unfold sesB
  exact decide_eq_false (by omega)

end Go.Proofs.Ytcefemblcifogaj
