import Derived.Test.YthbkabehjeidjaeDoorRfs
namespace Go.Proofs.YthbkabehjeidjaeDoor.C
open Go.RowKit

set_option maxHeartbeats 4000000 in
theorem refwithin_in {a : Option Addr} {c : Nat} {l : List Sp} {w : World} (f t : Int) (h : Ls w (.slice a l.length c) l) : Calls Tryd.prog 43 #[.slice a l.length c, .agg #[.int .i64 f, .int .i64 t]] w (GRPost true l (f, t) w) := by
  have hb0 := below_box w f t
  have d0 := box0 w (.int .i64 f) (.int .i64 t) 36
  have d1 := box1 w (.int .i64 f) (.int .i64 t) 36
  have hL0 := h.below hb0
  go_enter Tryd.func43, Tryd.ntmps43
  go_wp2_with fail
  obtain ⟨w0, hw0⟩ : ∃ w0, w.alloc (.cells #[.int .i64 f, .int .i64 t] 36) = w0 := ⟨_, rfl⟩
  rw [hw0] at hb0 d0 d1 hL0 ⊢
  clear hw0
  have HL : Hid (∀ W, Below w0.heap.size w0 W → Ls W (.slice a l.length c) l) := fun W hW => hL0.below hW
  have HF : Hid (∀ W, Below w0.heap.size w0 W → Below w.heap.size w W) := fun W hW => hb0.trans (hW.mono hb0.size)
  have HD : Hid (∀ W, Below w0.heap.size w0 W → W.cell? ⟨w.heap.size, 0, none⟩ = some (.int .i64 f) ∧ W.cell? ⟨w.heap.size, 1, none⟩ = some (.int .i64 t)) := fun W hW => ⟨cell_below d0 hW, cell_below d1 hW⟩
  have hR := refright_ls hL0
  have HI : Hid (setB l = true → IsSet l) := setB_iff.mp
  have HI2 : Hid (IsSet l → setB l = true) := setB_iff.mpr
  have HJ : Hid (askB (f, t) = true → Asked (f, t)) := askB_iff.mp
  have HJ2 : Hid (Asked (f, t) → askB (f, t) = true) := askB_iff.mpr
  have hwz : w.heap.size ≤ w0.heap.size := hb0.size
  clear h hb0 d0 d1 hL0
  have hA : Hid (∀ W, Calls Tryd.prog 96 #[.agg #[.int .i64 f, .int .i64 t]] W fun e w' => e = .returned (.bool (askB (f, t))) ∧ Below W.heap.size W w') := fun W => refasked_any f t W
  generalize setB l = V at *
  generalize askB (f, t) = V' at *
  refine hR.mono ?_
  rintro e w1 ⟨rfl, hb1⟩
  have HB1 : Hid (Below w0.heap.size w0 w1) := hb1
  obtain ⟨k0, k1⟩ := HD.out w1 hb1
  clear hR hb1
  go_wp2_with fail
  refine (hA.out w1).mono ?_
  rintro e w2 ⟨rfl, hb2⟩
  have HB2 : Hid (Below w0.heap.size w0 w2) := HB1.out.trans (hb2.mono HB1.out.size)
  clear hA hb2 HB1 k0 k1
  obtain ⟨k0, k1⟩ := HD.out w2 HB2.out
  cases V with
  | false =>
    have HN : Hid (¬ IsSet l) := fun h => by have := HI2.out h; cases this
    clear HI HI2 HJ HJ2
    go_wp2
    go_ret2
    exact ⟨_, [], 30, rfl, SOwn.nil _ _, .inl ⟨fun h => HN.out h.1, rfl, rfl⟩, HF.out _ HB2.out⟩
  | true =>
    cases V' with
    | false =>
      have HN : Hid (¬ Asked (f, t)) := fun h => by have := HJ2.out h; cases this
      clear HI HI2 HJ HJ2
      go_wp2
      go_ret2
      exact ⟨_, [], 30, rfl, SOwn.nil _ _, .inl ⟨fun h => HN.out h.2, rfl, rfl⟩, HF.out _ HB2.out⟩
    | true =>
      have SL : Hid (IsSet l) := HI.out rfl
      have AS : Hid (Asked (f, t)) := HJ.out rfl
      clear HI HI2 HJ HJ2
      have hl2 := SL.out.1
      have hpl : (pc t f l).length ≤ 2 * l.length + 1 := len_pc
      go_wp2_with fail
      refine (refpieces_in a c l w2 f t (HL.out w2 HB2.out) SL.out AS.out).mono ?_
      rintro e w3 ⟨v3, rfl, hp3, hb3⟩
      have HB3 : Hid (Below w0.heap.size w0 w3) := HB2.out.trans (hb3.mono HB2.out.size)
      obtain ⟨a3, c3, rfl⟩ := hp3.shape
      have hsome := some_any a3 c3 (pc t f l) _ true w3 hp3 (by omega)
      have hpk := pick_len true (pc t f l)
      have HPK : Hid (pick true (pc t f l) = wth l (f, t)) := rfl
      clear hp3 hb3 HB2 k0 k1
      go_wp2_with fail
      refine hsome.mono ?_
      rintro e w4 ⟨v4, rfl, hs4, hb4⟩
      have HB4 : Hid (Below w0.heap.size w0 w4) := HB3.out.trans (hb4.mono HB3.out.size)
      have HS4 : Hid (SOwn w4 w.heap.size v4 (pick true (pc t f l))) := hs4.base (Nat.le_trans hwz HB3.out.size)
      obtain ⟨a4, c4, hv4⟩ := HS4.out.shape
      subst hv4
      clear hsome hs4 hb4 HB3
      have hle : (pick true (pc t f l)).length ≤ 2000 := by have := len_true (hi := t) (l := l) (p := f); omega
      have HG : Hid (GR true l (f, t) (pick true (pc t f l)) 0) := .inr ⟨SL.out, AS.out, .inl ⟨hle, rfl, rfl⟩⟩
      generalize pick true (pc t f l) = U at *
      go_wp2
      go_ret2
      exact ⟨_, U, 0, rfl, HS4.out, HG.out, HF.out _ HB4.out⟩

theorem refwithin_any {v : Value} {l : List Sp} {w : World} (f t : Int) (h : Ls w v l) : Calls Tryd.prog 43 #[v, .agg #[.int .i64 f, .int .i64 t]] w (GRPost true l (f, t) w) := by
  obtain ⟨a, c, rfl, _⟩ := h.shape; exact refwithin_in f t h

/-- Pieces, of whatever is asked. -/
def PcAny (w : World) (l : List Sp) (s : Sp) (e : Ending) (w' : World) : Prop := ∃ v ps, e = .returned v ∧ POwn w' w.heap.size v ps ∧ Below w.heap.size w w' ∧ (IsSet l ∧ Asked s → ps = pc s.2 s.1 l) ∧ ps.length ≤ 4001

set_option maxHeartbeats 4000000 in
theorem refpieces_any {a : Option Addr} {c : Nat} {l : List Sp} {w : World} (f t : Int) (h : Ls w (.slice a l.length c) l) : Calls Tryd.prog 83 #[.slice a l.length c, .agg #[.int .i64 f, .int .i64 t]] w (PcAny w l (f, t)) := by
  by_cases hq : IsSet l ∧ Asked (f, t)
  · refine (refpieces_in a c l w f t h hq.1 hq.2).mono ?_
    rintro e w' ⟨v, rfl, hp, hb⟩
    exact ⟨v, _, rfl, hp, hb, fun _ => rfl, by have : (pc t f l).length ≤ 2 * l.length + 1 := len_pc; have := hq.1.1; omega⟩
  · have HN : Hid (¬ (IsSet l ∧ Asked (f, t))) := hq
    have hb0 := below_box w f t
    have d0 := box0 w (.int .i64 f) (.int .i64 t) 36
    have d1 := box1 w (.int .i64 f) (.int .i64 t) 36
    have hR := refright_ls (h.below hb0)
    have HI : Hid (setB l = true → IsSet l) := setB_iff.mp
    have HJ : Hid (askB (f, t) = true → Asked (f, t)) := askB_iff.mp
    have hA : Hid (∀ W, Calls Tryd.prog 96 #[.agg #[.int .i64 f, .int .i64 t]] W fun e w' => e = .returned (.bool (askB (f, t))) ∧ Below W.heap.size W w') := fun W => refasked_any f t W
    have HB0 : Hid (Below w.heap.size w (w.alloc (.cells #[.int .i64 f, .int .i64 t] 36))) := hb0
    clear h hq hb0
    generalize setB l = V at *
    generalize askB (f, t) = V' at *
    go_enter Tryd.func83, Tryd.ntmps83
    go_wp2_with fail
    refine hR.mono ?_
    rintro e w1 ⟨rfl, hb1⟩
    have k0 := cell_below d0 hb1
    have k1 := cell_below d1 hb1
    have HB1 : Hid (Below w.heap.size w w1) := HB0.out.trans (hb1.mono HB0.out.size)
    clear hR hb1 d0 d1 HB0
    go_wp2_with fail
    refine (hA.out w1).mono ?_
    rintro e w2 ⟨rfl, hb2⟩
    have HB2 : Hid (Below w.heap.size w w2) := HB1.out.trans (hb2.mono HB1.out.size)
    clear hA hb2 HB1 k0 k1
    cases V with
    | false =>
      clear HI HJ
      go_wp2
      go_ret
      exact ⟨_, [], rfl, World.ownsRow_nil _ _ _ _, HB2.out, fun h => absurd h HN.out, by simp⟩
    | true =>
      cases V' with
      | true => exact absurd ⟨HI.out rfl, HJ.out rfl⟩ HN.out
      | false =>
        clear HI HJ
        go_wp2
        go_ret
        exact ⟨_, [], rfl, World.ownsRow_nil _ _ _ _, HB2.out, fun h => absurd h HN.out, by simp⟩

theorem cv_pick {l : List Sp} {s : Sp} {ps : List (Sp × Bool)} (hps : IsSet l ∧ Asked s → ps = pc s.2 s.1 l) : cvB l s = (setB l && (askB s && decide ((pick false ps).length = 0))) := by
  unfold cvB
  cases hs : setB l with
  | false => rfl
  | true =>
    cases ha : askB s with
    | false => rfl
    | true =>
      rw [hps ⟨setB_iff.mp hs, askB_iff.mp ha⟩]
      show decide (gps l s = []) = decide ((gps l s).length = 0)
      by_cases hg : gps l s = []
      · simp [hg]
      · rw [decide_eq_false hg, decide_eq_false (fun e => hg (List.eq_nil_of_length_eq_zero e))]

end Go.Proofs.YthbkabehjeidjaeDoor.C
