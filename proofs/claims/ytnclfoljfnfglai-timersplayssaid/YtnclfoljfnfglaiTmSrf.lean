import Derived.Test.YtnclfoljfnfglaiTmPpd
import Derived.Test.YtnclfoljfnfglaiTmTck
namespace Go.Proofs.Ytnclfoljfnfglai
open Go.RowKit Go.Maps Go.Sort
set_option linter.unusedVariables false

/-! ## The sort of any row of keys -/
theorem ins0_any (v fv : Value) (w : World) : Calls Try.prog 90 #[v, .int .i64 0, .int .i64 0, fv] w fun e w' => e = .returned (.tuple #[]) ∧ w = w' := by
  go_enter Try.func90, Try.ntmps90
  go_wp2
  refine wp_loop_rounds 1 ?_
  rw [rounds_succ]
  go_wp2
  go_end0
  exact ⟨rfl, rfl⟩
theorem pdq0_any (v : Value) (og : Nat) (lim : Int) (w : World) :
    Calls Try.prog 77 #[v, .int .i64 0, .int .i64 0, .int .i64 lim, cmpF og] w fun e w' => e = .returned (.tuple #[]) ∧ w = w' := by
  have hI := ins0_any v (cmpF og) w
  go_enter Try.func77, Try.ntmps77
  go_wp2
  refine wp_loop_rounds 1 ?_
  rw [rounds_succ]
  go_wp2_with fail
  refine hI.mono ?_
  rintro e w' ⟨rfl, rfl⟩
  go_wp2
  refine bodyPost_ret (results_none rfl _ _ _) rfl ?_
  exact ⟨rfl, rfl⟩
theorem sortF0_any (a : Option Addr) (cap og : Nat) (w : World) :
    Calls Try.prog 73 #[.slice a 0 cap, cmpF og] w fun e w' => e = .returned (.tuple #[]) ∧ w = w' := by
  have hI := fun lim => pdq0_any (.slice a 0 cap) og lim w
  have hB := blen_any 0 (by omega) w
  go_enter Try.func73, Try.ntmps73
  go_wp2_with fail
  refine hB.mono ?_
  rintro e w' ⟨⟨lim, rfl⟩, rfl⟩
  go_wp2_with fail
  refine (hI lim).mono ?_
  rintro e w' ⟨rfl, rfl⟩
  go_wp2
  go_end0
  exact ⟨rfl, rfl⟩
theorem osort0_any (a : Option Addr) (cap og : Nat) (w : World) :
    Calls Try.prog 57 #[.slice (some ⟨og, 0, none⟩) 5 5, .slice a 0 cap] w fun e w' => e = .returned (.tuple #[]) ∧ w = w' := by
  have hI := sortF0_any a cap og w
  go_enter Try.func57, Try.ntmps57
  go_wp2_with fail
  refine hI.mono ?_
  rintro e w' ⟨rfl, rfl⟩
  go_wp2
  go_end0
  exact ⟨rfl, rfl⟩

theorem sortF_any (g og cap base n : Nat) (w0 : World) (d : Array Kx) (w : World) (h : SR g og cap base n w0 d w) (hn : n < 1152921504606846976) :
    Calls Try.prog 73 #[.slice (some ⟨g, 0, none⟩) n cap, cmpF og] w fun e w' => e = .returned (.tuple #[]) ∧ SR g og cap base n w0 (Go.Sort.sort ltK d) w' := by
  have hk : bitsLen n ≤ 62 := (bitsLen_le_iff n 62).2 (by omega)
  have hI := pdq_any g og cap base n w0 hn n 0 n (bitsLen n) d w h (by omega) (by omega) (by omega) (by omega)
  have hw : IntKind.u64.wrap (n : Int) = n := by rw [IntKind.wrap_u64]; omega
  have hB := blenX n (by omega) w
  have hs : Hid (pdq ltK d 0 n (bitsLen n) true true = Go.Sort.sort ltK d) := by show _ = _; rw [Go.Sort.sort, h.len]
  rw [hs.out] at hI
  clear h
  go_enter Try.func73, Try.ntmps73
  go_wp2_with fail
  refine hB.mono ?_
  rintro e w' ⟨rfl, rfl⟩
  go_wp2_with fail
  refine hI.mono ?_
  rintro e w' ⟨rfl, hr⟩
  have HR : Hid _ := hr
  clear hr
  go_wp2
  go_end0
  exact ⟨rfl, HR.out⟩

theorem osort_any (g og cap base n : Nat) (w0 : World) (d : Array Kx) (w : World) (h : SR g og cap base n w0 d w) (hn : n < 1152921504606846976) :
    Calls Try.prog 57 #[.slice (some ⟨og, 0, none⟩) 5 5, .slice (some ⟨g, 0, none⟩) n cap] w fun e w' => e = .returned (.tuple #[]) ∧ SR g og cap base n w0 (Go.Sort.sort ltK d) w' := by
  have hI := sortF_any g og cap base n w0 d w h hn
  clear h
  go_enter Try.func57, Try.ntmps57
  go_wp2_with fail
  refine hI.mono ?_
  rintro e w' ⟨rfl, hr⟩
  have HR : Hid _ := hr
  clear hr
  go_wp2
  go_end0
  exact ⟨rfl, HR.out⟩

/-- These keys in their order. -/
def srtK (l : List Kx) : List Kx := (Go.Sort.sort ltK l.toArray).toList
/-! ## What the sorted keys are -/
theorem perm_sorted {α : Type} (lt : α → α → Bool) (hl : ∀ x y, lt x y = false → lt y x = false → x = y) : ∀ (l l' : List α), l.Perm l' → l.Pairwise (fun x y => lt y x = false) → l'.Pairwise (fun x y => lt y x = false) → l = l'
  | [], l', h, _, _ => (List.nil_perm.mp h).symm
  | x :: r, [], h, _, _ => by simpa using h.length_eq
  | x :: r, y :: r', h, h1, h2 => by
    rw [List.pairwise_cons] at h1 h2
    have e : x = y := by
      have hx : x ∈ y :: r' := h.mem_iff.mp (by simp)
      have hy : y ∈ x :: r := h.mem_iff.mpr (by simp)
      rcases List.mem_cons.mp hx with e | hx
      · exact e
      · rcases List.mem_cons.mp hy with e | hy
        · exact e.symm
        · exact hl _ _ (h2.1 x hx) (h1.1 y hy)
    subst e
    rw [perm_sorted lt hl r r' (List.perm_cons x |>.mp h) h1.2 h2.2]
theorem srtK_perm (l : List Kx) : (srtK l).Perm l := by
  obtain ⟨h1, _, h2⟩ := (sortK l.toArray).1
  have e1 : (Go.Sort.sort ltK l.toArray).extract 0 l.toArray.size = Go.Sort.sort ltK l.toArray := by rw [← h1]; exact Array.extract_size
  have e2 : l.toArray.extract 0 l.toArray.size = l.toArray := Array.extract_size
  rw [e1, e2] at h2
  exact h2
theorem srtK_sorted (l : List Kx) : (srtK l).Pairwise (fun x y => ltK y x = false) := by
  have h := (sortK l.toArray).2
  have h1 := (sortK l.toArray).1.1
  rw [List.pairwise_iff_getElem]
  intro i j hi hj hij
  have hi' : i < (Go.Sort.sort ltK l.toArray).size := hi
  have hj' : j < (Go.Sort.sort ltK l.toArray).size := hj
  have := h i j (by omega) hij (by rw [← h1]; exact hj')
  rw [getElem!_pos _ i hi', getElem!_pos _ j hj'] at this
  exact this
theorem srtK_eq {l l' : List Kx} (h : l.Perm l') : srtK l = srtK l' :=
  perm_sorted ltK levelK _ _ ((srtK_perm l).trans (h.trans (srtK_perm l').symm)) (srtK_sorted l) (srtK_sorted l')
theorem srtK_mem {l : List Kx} {k : Kx} : k ∈ srtK l ↔ k ∈ l := (srtK_perm l).mem_iff
theorem srtK_nd {l : List Kx} : (srtK l).Nodup ↔ l.Nodup := (srtK_perm l).nodup_iff
theorem srtK_len (l : List Kx) : (srtK l).length = l.length := (srtK_perm l).length_eq
/-- Of keys that differ each stands ahead of the next ones. -/
theorem srtK_rises {l : List Kx} (h : l.Nodup) : (srtK l).Pairwise (fun x y => ltK x y = true) := by
  have h1 := srtK_sorted l
  have h2 := srtK_nd.mpr h
  have h3 := h1.and h2
  refine h3.imp fun {x y} ⟨h4, h5⟩ => ?_
  cases e : ltK x y
  · exact absurd (levelK x y e h4) h5
  · rfl

theorem sorts_any (l : List Kx) (hcap : l.length < 1152921504606846976) : SortsTo l (srtK l) := by
  intro v og base W h ho
  by_cases h0 : l.length = 0
  · have hl : l = [] := List.eq_nil_of_length_eq_zero h0
    subst hl
    obtain ⟨a, cap, rfl⟩ := h.shape
    exact (osort0_any a cap og W).mono fun e w' ⟨h1, h2⟩ => by subst h2; rw [List.perm_nil.mp (srtK_perm [])]; exact ⟨h1, h, Kq.refl _ _⟩
  · obtain ⟨g, cap, rfl, hb, hg, _⟩ := h.some (by omega)
    have hne : og ≠ g := fun e => by
      subst e
      obtain ⟨_, ⟨e, _⟩ | ⟨g', cap', cur, e, _, hh, _⟩⟩ := h
      · cases e
      · cases e
        rw [hh] at ho
        cases ho
    exact (osort_any g og cap base l.length W l.toArray W ⟨by simpa using h, ho, Kq.refl _ _, hne, by simp⟩ (by omega)).mono fun e w' ⟨h1, h2⟩ => by
      have hl : (Go.Sort.sort ltK l.toArray).toList.length = l.length := h2.len
      exact ⟨h1, h2.row, h2.kq.mono (fun k hk => by rw [hk]; rfl)⟩

/-! ## Tick, of any table -/
def outS (L : Tl) (Hs : List Int) : List Kx := (L.filter fun x => decide (x.2 = 1 ∧ x.1.1 ∉ Hs)).map Prod.fst
def tickT (L : Tl) (Hs : List Int) : Tl := (L.filter fun x => decide (x.1.1 ∈ Hs ∨ x.2 ≠ 1)).map fun x => if x.1.1 ∈ Hs then x else (x.1, x.2 - 1)
theorem nd_fst {L : Tl} (h : (L.map Prod.fst).Nodup) : L.Nodup := by
  unfold List.Nodup at *
  rw [List.pairwise_map] at h
  exact h.imp fun h1 h2 => h1 (by rw [h2])
theorem outS_mem {L : Tl} {Hs : List Int} {k : Kx} : k ∈ outS L Hs ↔ (k, 1) ∈ L ∧ k.1 ∉ Hs := by
  simp only [outS, List.mem_map, List.mem_filter, decide_eq_true_eq]
  constructor
  · rintro ⟨⟨k', c⟩, ⟨h1, h2, h3⟩, rfl⟩
    simp only at h2 h3
    subst h2
    exact ⟨h1, h3⟩
  · rintro ⟨h1, h2⟩
    exact ⟨(k, 1), ⟨h1, rfl, h2⟩, rfl⟩
theorem outS_nd {L : Tl} (Hs : List Int) (h : (L.map Prod.fst).Nodup) : (outS L Hs).Nodup := List.Nodup.sublist (List.Sublist.map _ List.filter_sublist) h
theorem tickT_mem {L : Tl} {Hs : List Int} {k : Kx} {c : Int} : (k, c) ∈ tickT L Hs ↔ (k.1 ∈ Hs ∧ (k, c) ∈ L) ∨ (k.1 ∉ Hs ∧ (k, c + 1) ∈ L ∧ c ≠ 0) := by
  simp only [tickT, List.mem_map, List.mem_filter, decide_eq_true_eq]
  constructor
  · rintro ⟨⟨k', c'⟩, ⟨h1, h2⟩, h3⟩
    by_cases e : k'.1 ∈ Hs
    · simp only [e, if_true, Prod.mk.injEq] at h3
      obtain ⟨rfl, rfl⟩ := h3
      exact .inl ⟨e, h1⟩
    · simp only [e, if_false, Prod.mk.injEq] at h3
      obtain ⟨rfl, rfl⟩ := h3
      simp only [e, false_or] at h2
      exact .inr ⟨e, by rw [show c' - 1 + 1 = c' by omega]; exact h1, by omega⟩
  · rintro (⟨h1, h2⟩ | ⟨h1, h2, h3⟩)
    · exact ⟨(k, c), ⟨h2, .inl h1⟩, by simp [h1]⟩
    · exact ⟨(k, c + 1), ⟨h2, .inr (by simp only [ne_eq]; omega)⟩, by simp [h1]⟩
theorem tickT_nd {L : Tl} (Hs : List Int) (h : (L.map Prod.fst).Nodup) : ((tickT L Hs).map Prod.fst).Nodup := by
  have e : (tickT L Hs).map Prod.fst = (L.filter fun x => decide (x.1.1 ∈ Hs ∨ x.2 ≠ 1)).map Prod.fst := by
    unfold tickT
    rw [List.map_map]
    refine List.map_congr_left fun x _ => ?_
    simp only [Function.comp]
    split <;> rfl
  rw [e]
  exact List.Nodup.sublist (List.Sublist.map _ List.filter_sublist) h
theorem outT_perm {L : Tl} {Hs : List Int} {ks : List Kx} (hL : (L.map Prod.fst).Nodup) (hn : ks.Nodup) (hm : ∀ k, k ∈ ks ↔ (k ∈ L.map Prod.fst ∧ k.1 ∉ Hs)) : (outT L ks).Perm (outS L Hs) := by
  have h1 : (outT L ks).Nodup := List.Nodup.sublist List.filter_sublist hn
  rw [List.perm_ext_iff_of_nodup h1 (outS_nd Hs hL)]
  intro k
  rw [outS_mem]
  simp only [outT, List.mem_filter, hm k, decide_eq_true_eq]
  exact ⟨fun h => ⟨h.2, h.1.2⟩, fun h => ⟨⟨List.mem_map.mpr ⟨_, h.1, rfl⟩, h.2⟩, h.1⟩⟩
theorem tick_perm {L L' : Tl} {Hs : List Int} {ks : List Kx} (hL : (L.map Prod.fst).Nodup) (hL' : (L'.map Prod.fst).Nodup) (hp : ∀ x ∈ L, 1 ≤ x.2) (hm : ∀ k, k ∈ ks ↔ (k ∈ L.map Prod.fst ∧ k.1 ∉ Hs)) (h : TK L ks L') : L'.Perm (tickT L Hs) := by
  rw [List.perm_ext_iff_of_nodup (nd_fst hL') (nd_fst (tickT_nd Hs hL))]
  rintro ⟨k, c⟩
  rw [h.mem k c, tickT_mem]
  constructor
  · rintro (⟨h1, h2, h3⟩ | ⟨h1, h2⟩)
    · exact .inr ⟨((hm k).mp h1).2, h2, by omega⟩
    · have hk : k ∈ L.map Prod.fst := List.mem_map.mpr ⟨_, h2, rfl⟩
      by_cases e : k.1 ∈ Hs
      · exact .inl ⟨e, h2⟩
      · exact absurd ((hm k).mpr ⟨hk, e⟩) h1
  · rintro (⟨h1, h2⟩ | ⟨h1, h2, h3⟩)
    · exact .inr ⟨fun e => ((hm k).mp e).2 h1, h2⟩
    · have hk : k ∈ L.map Prod.fst := List.mem_map.mpr ⟨_, h2, rfl⟩
      have := hp _ h2
      simp only at this
      exact .inl ⟨(hm k).mpr ⟨hk, h1⟩, h2, by omega⟩
theorem tick10_any (p bl bh : Nat) (L : Tl) (Hs : List Int) (w : World) (h : Tb w p bl bh L Hs) (hl : L.length < 2199023255552) :
    Calls Try.prog 33 #[.pointer (some ⟨p, 0, none⟩)] w fun e w' => ∃ v, e = .returned v ∧ KR w' w.heap.size v (srtK (outS L Hs)) ∧ Tb w' p bl bh (tickT L Hs) Hs ∧ Kq (· = bl) w w' :=
  (tick_gen p bl bh L Hs (srtK (outS L Hs)) w h hl (fun ks hn hm => by rw [← srtK_eq (outT_perm h.nd hn hm)]; exact sorts_any _ (by rw [(outT_perm h.nd hn hm).length_eq]; exact Nat.lt_of_le_of_lt (by unfold outS; rw [List.length_map]; exact List.length_filter_le _ _) (Nat.lt_trans hl (by decide))))).mono
    fun e w' ⟨v, ks, L', h1, h2, h3, h4, h5, h6, h7, h8⟩ => ⟨v, h1, h6, h7.perm (tick_perm h.nd h7.nd h.pos h3 h4), h8⟩
theorem tickT_len (L : Tl) (Hs : List Int) : (tickT L Hs).length ≤ L.length := by
  unfold tickT; rw [List.length_map]; exact List.length_filter_le _ _

end Go.Proofs.Ytnclfoljfnfglai
