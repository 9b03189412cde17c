import Derived.Test.YtlagadpfnkidjadDoorGat
namespace Go.Proofs.YtlagadpfnkidjadDoor.C
open Go.RowKit

/-- What Gaps (had: false) and Within (had: true) answer. -/
def GR (had : Bool) (l : List Sp) (s : Sp) (u : List Sp) (er : Int) : Prop := (¬ (IsSet l ∧ Asked s) ∧ er = 30 ∧ u = []) ∨ (IsSet l ∧ Asked s ∧ BR (pick had (pc s.2 s.1 l)) u er)
theorem BR.uniq {U u u' : List Sp} {er er' : Int} (h : BR U u er) (h' : BR U u' er') : u = u' ∧ er = er' := by
  rcases h with ⟨a, b, c⟩ | ⟨a, b, c⟩ <;> rcases h' with ⟨d, e, f⟩ | ⟨d, e, f⟩
  · exact ⟨by rw [c, f], by omega⟩
  · omega
  · omega
  · exact ⟨by rw [c, f], by omega⟩
theorem GR.uniq {had : Bool} {l : List Sp} {s : Sp} {u u' : List Sp} {er er' : Int} (h : GR had l s u er) (h' : GR had l s u' er') : u = u' ∧ er = er' := by
  rcases h with ⟨h1, h2, h3⟩ | ⟨h1, h2, h3⟩ <;> rcases h' with ⟨k1, k2, k3⟩ | ⟨k1, k2, k3⟩
  · exact ⟨by rw [h3, k3], by omega⟩
  · exact absurd ⟨k1, k2⟩ h1
  · exact absurd ⟨h1, h2⟩ k1
  · exact h3.uniq k3
theorem GR.len {had : Bool} {l : List Sp} {s : Sp} {u : List Sp} {er : Int} (h : GR had l s u er) : u.length ≤ 2000 := by
  rcases h with ⟨_, _, rfl⟩ | ⟨_, _, ⟨h, _, rfl⟩ | ⟨_, _, rfl⟩⟩
  · simp
  · exact h
  · simp
theorem GR.errs {had : Bool} {l : List Sp} {s : Sp} {u : List Sp} {er : Int} (h : GR had l s u er) : er = 0 ∨ er = 3 ∨ er = 30 := by
  rcases h with ⟨_, h, _⟩ | ⟨_, _, ⟨_, h, _⟩ | ⟨_, h, _⟩⟩ <;> omega
theorem GR.within {l : List Sp} {s : Sp} {u : List Sp} {er : Int} (h : GR true l s u er) (hl : IsSet l) (ha : Asked s) : er = 0 ∧ u = wth l s := by
  rcases h with ⟨h1, _⟩ | ⟨_, _, ⟨_, h2, h3⟩ | ⟨h1, _⟩⟩
  · exact absurd ⟨hl, ha⟩ h1
  · exact ⟨h2, h3⟩
  · have := len_true (hi := s.2) (l := l) (p := s.1); have := hl.1; omega
theorem GR.gaps {l : List Sp} {s : Sp} {u : List Sp} {er : Int} (h : GR false l s u er) (hl : IsSet l) (ha : Asked s) : BR (gps l s) u er := by
  rcases h with ⟨h1, _⟩ | ⟨_, _, h⟩
  · exact absurd ⟨hl, ha⟩ h1
  · exact h

def GRPost (had : Bool) (l : List Sp) (s : Sp) (w : World) (e : Ending) (w' : World) : Prop := ∃ v u er, e = .returned (.tuple #[v, .int .i64 er]) ∧ SOwn w' w.heap.size v u ∧ GR had l s u er ∧ Below w.heap.size w w'

set_option maxHeartbeats 2000000 in
theorem gather_any {v : Value} {l : List Sp} {w : World} (f t : Int) (had : Bool) (h : Ls w v l) : Calls Tryd.prog 110 #[v, .agg #[.int .i64 f, .int .i64 t], .bool had] w (GRPost had l (f, t) w) := by
  obtain ⟨a, c, rfl, _⟩ := h.shape
  by_cases hq : IsSet l ∧ Asked (f, t)
  · refine (callsIn_wide.1 (gather_in f t had h hq.1 hq.2 9 (Nat.le_refl _))).mono ?_
    rintro e w' ⟨v', u, er, rfl, h1, h2, h3⟩
    exact ⟨v', u, er, rfl, h1, .inr ⟨hq.1, hq.2, h2⟩, h3⟩
  · have HN : Hid (¬ (IsSet l ∧ Asked (f, t))) := hq
    have HI : Hid (setB l = true → IsSet l) := setB_iff.mp
    have HI' : Hid (askB (f, t) = true → Asked (f, t)) := askB_iff.mp
    have hb0 : Below w.heap.size w ((w.alloc (.cells #[.int .i64 f, .int .i64 t] 42)).alloc (.cells #[.bool had] 4)) := ((Below.refl _ _).alloc (Nat.le_refl _) _).alloc (by simp) _
    have hR := right_ls (h.below hb0)
    have HR2 : Hid (∀ W, Calls Tryd.prog 109 #[.agg #[.int .i64 f, .int .i64 t]] W fun e w' => e = .returned (.bool (askB (f, t))) ∧ Below W.heap.size W w') := fun W => asked_any f t W
    have HB0 : Hid (Below w.heap.size w ((w.alloc (.cells #[.int .i64 f, .int .i64 t] 42)).alloc (.cells #[.bool had] 4))) := hb0
    clear h hq hb0
    generalize setB l = V at *
    generalize askB (f, t) = V' at *
    go_enter Tryd.func110, Tryd.ntmps110
    go_wp2_with fail
    refine hR.mono ?_
    rintro e w1 ⟨rfl, hb1⟩
    clear hR
    have c0 : w1.cell? ⟨w.heap.size, 0, none⟩ = some (.int .i64 f) := (hb1.cell (p := ⟨w.heap.size, 0, none⟩) (by simp; omega)).trans ((Below.cell (p := ⟨w.heap.size, 0, none⟩) ((Below.refl (w.heap.size + 1) (w.alloc (.cells #[.int .i64 f, .int .i64 t] 42))).alloc (by simp) _) (by simp)).trans (box0 _ _ _ _))
    have c1 : w1.cell? ⟨w.heap.size, 1, none⟩ = some (.int .i64 t) := (hb1.cell (p := ⟨w.heap.size, 1, none⟩) (by simp; omega)).trans ((Below.cell (p := ⟨w.heap.size, 1, none⟩) ((Below.refl (w.heap.size + 1) (w.alloc (.cells #[.int .i64 f, .int .i64 t] 42))).alloc (by simp) _) (by simp)).trans (box1 _ _ _ _))
    have HB1 : Hid (Below w.heap.size w w1) := HB0.out.trans (hb1.mono (by simp; omega))
    clear hb1 HB0
    cases V with
    | false =>
      clear HI HI'
      go_wp2
      go_ret2
      exact ⟨_, [], 30, rfl, SOwn.nil _ _, .inl ⟨HN.out, rfl, rfl⟩, HB1.out⟩
    | true =>
      have HQ : Hid (IsSet l) := HI.out rfl
      clear HI
      go_wp2_with fail
      refine (HR2.out w1).mono ?_
      rintro e w2 ⟨rfl, hb2⟩
      have HB2 : Hid (Below w.heap.size w w2) := HB1.out.trans (hb2.mono HB1.out.size)
      clear hb2 HB1 HR2
      cases V' with
      | true => exact absurd ⟨HQ.out, HI'.out rfl⟩ HN.out
      | false =>
        clear HI'
        go_wp2
        go_ret2
        exact ⟨_, [], 30, rfl, SOwn.nil _ _, .inl ⟨HN.out, rfl, rfl⟩, HB2.out⟩

theorem below_box (w : World) (f t : Int) : Below w.heap.size w (w.alloc (.cells #[.int .i64 f, .int .i64 t] 42)) := (Below.refl _ _).alloc (Nat.le_refl _) _

theorem gaps_any {v : Value} {l : List Sp} {w : World} (f t : Int) (h : Ls w v l) : Calls Tryd.prog 90 #[v, .agg #[.int .i64 f, .int .i64 t]] w (GRPost false l (f, t) w) := by
  have hG := gather_any f t false (h.below (below_box w f t))
  have HB0 : Hid (Below w.heap.size w (w.alloc (.cells #[.int .i64 f, .int .i64 t] 42))) := below_box w f t
  obtain ⟨a, c, rfl, _⟩ := h.shape
  clear h
  go_enter Tryd.func90, Tryd.ntmps90
  go_wp2_with fail
  refine hG.mono ?_
  rintro e w1 ⟨v1, u, er, rfl, hs1, hr1, hb1⟩
  obtain ⟨a1, c1, rfl⟩ := hs1.shape
  have HB1 : Hid (Below w.heap.size w w1) := HB0.out.trans (hb1.mono HB0.out.size)
  have HS1 : Hid (SOwn w1 w.heap.size (.slice a1 u.length c1) u) := hs1.base HB0.out.size
  have HR1 : Hid (GR false l (f, t) u er) := hr1
  clear hG hb1 hs1 hr1
  go_wp2
  go_ret2
  exact ⟨_, u, er, rfl, HS1.out, HR1.out, HB1.out⟩

theorem within_any {v : Value} {l : List Sp} {w : World} (f t : Int) (h : Ls w v l) : Calls Tryd.prog 102 #[v, .agg #[.int .i64 f, .int .i64 t]] w (GRPost true l (f, t) w) := by
  have hG := gather_any f t true (h.below (below_box w f t))
  have HB0 : Hid (Below w.heap.size w (w.alloc (.cells #[.int .i64 f, .int .i64 t] 42))) := below_box w f t
  obtain ⟨a, c, rfl, _⟩ := h.shape
  clear h
  go_enter Tryd.func102, Tryd.ntmps102
  go_wp2_with fail
  refine hG.mono ?_
  rintro e w1 ⟨v1, u, er, rfl, hs1, hr1, hb1⟩
  obtain ⟨a1, c1, rfl⟩ := hs1.shape
  have HB1 : Hid (Below w.heap.size w w1) := HB0.out.trans (hb1.mono HB0.out.size)
  have HS1 : Hid (SOwn w1 w.heap.size (.slice a1 u.length c1) u) := hs1.base HB0.out.size
  have HR1 : Hid (GR true l (f, t) u er) := hr1
  clear hG hb1 hs1 hr1
  go_wp2
  go_ret2
  exact ⟨_, u, er, rfl, HS1.out, HR1.out, HB1.out⟩

/-- Covers. -/
def cvB (l : List Sp) (s : Sp) : Bool := setB l && (askB s && decide (gps l s = []))
theorem cv_of {l : List Sp} {s : Sp} {u : List Sp} {er : Int} (h : GR false l s u er) : cvB l s = (decide (er = 0) && decide (u.length = 0)) := by
  unfold cvB
  by_cases hq : IsSet l ∧ Asked s
  · rw [setB_iff.mpr hq.1, askB_iff.mpr hq.2]
    rcases h.gaps hq.1 hq.2 with ⟨h1, rfl, rfl⟩ | ⟨h1, rfl, rfl⟩
    · simp [List.length_eq_zero_iff]
    · have : gps l s ≠ [] := fun e => by rw [e] at h1; simp at h1
      simp [this]
  · rcases h with ⟨_, rfl, _⟩ | ⟨h1, h2, _⟩
    · have : ¬ (setB l = true ∧ askB s = true) := fun e => hq ⟨setB_iff.mp e.1, askB_iff.mp e.2⟩
      cases hs : setB l <;> cases ha : askB s <;> simp_all
    · exact absurd ⟨h1, h2⟩ hq

theorem covers_any {v : Value} {l : List Sp} {w : World} (f t : Int) (h : Ls w v l) : Calls Tryd.prog 79 #[v, .agg #[.int .i64 f, .int .i64 t]] w fun e w' => e = .returned (.bool (cvB l (f, t))) ∧ Below w.heap.size w w' := by
  have hG := gaps_any f t (h.below (below_box w f t))
  have HB0 : Hid (Below w.heap.size w (w.alloc (.cells #[.int .i64 f, .int .i64 t] 42))) := below_box w f t
  obtain ⟨a, c, rfl, _⟩ := h.shape
  clear h
  have HC : Hid (∀ u er, GR false l (f, t) u er → cvB l (f, t) = (decide (er = 0) && decide (u.length = 0))) := fun _ _ => cv_of
  generalize cvB l (f, t) = V at *
  go_enter Tryd.func79, Tryd.ntmps79
  go_wp2_with fail
  refine hG.mono ?_
  rintro e w1 ⟨v1, u, er, rfl, hs1, hr1, hb1⟩
  obtain ⟨a1, c1, rfl⟩ := hs1.shape
  have HB1 : Hid (Below w.heap.size w w1) := HB0.out.trans (hb1.mono HB0.out.size)
  have HV : Hid (V = (decide (er = 0) && decide (u.length = 0))) := HC.out u er hr1
  have hul := hr1.len
  clear hG hb1 hs1 hr1 HC
  by_cases he : er = 0
  · subst he
    by_cases hu : u.length = 0
    · have hu' : (u.length : Int) = 0 := by omega
      have HV2 : Hid (V = true) := by rw [Hid, HV.out, hu]; rfl
      clear HV
      go_wp2
      go_ret
      exact ⟨by rw [HV2.out]; rfl, HB1.out⟩
    · have hu' : ((u.length : Int) == 0) = false := beq_false_of_ne (by omega)
      have HV2 : Hid (V = false) := by rw [Hid, HV.out, decide_eq_false hu]; rfl
      clear HV
      go_wp2
      go_ret
      exact ⟨by rw [HV2.out]; rfl, HB1.out⟩
  · have HV2 : Hid (V = false) := by rw [Hid, HV.out, decide_eq_false he]; rfl
    clear HV
    go_wp2
    go_ret
    exact ⟨by rw [HV2.out]; rfl, HB1.out⟩

theorem ls_two (w : World) (a b c d : Int) : Ls (w.alloc (.cells #[.int .i64 a, .int .i64 b, .int .i64 c, .int .i64 d] 42)) (.slice (some ⟨w.heap.size, 0, none⟩) 2 2) [(a, b), (c, d)] := by
  refine ⟨⟨_, 2, rfl, .inr ⟨w.heap.size, 0, rfl, fun i p hp => ?_⟩, by simp, by omega⟩, by simp⟩
  match i, hp with
  | 0, hp => simp at hp; subst hp; exact ⟨by simp, by simp⟩
  | 1, hp => simp at hp; subst hp; exact ⟨by simp, by simp⟩
  | i + 2, hp => simp at hp

theorem awake_ar : AR [(0, 3), (5, 9)] (3, 5) [(0, 9)] 2 0 := by
  refine ⟨.inr ⟨⟨by simp, by simp [Rt]⟩, ⟨by simp, by simp [Rt]⟩, [(0, 9)], ⟨by simp [Rt], fun x => ?_, by simp⟩, .inl ⟨by simp, rfl, rfl⟩⟩, .inl ⟨rfl, by simp [siz]⟩⟩
  apply Bool.eq_iff_iff.mpr
  simp [has, inn]
  omega

end Go.Proofs.YtlagadpfnkidjadDoor.C
