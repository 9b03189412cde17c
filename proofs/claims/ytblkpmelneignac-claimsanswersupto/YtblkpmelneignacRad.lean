import Derived.Test.YtblkpmelneignacRpt
namespace Go.Proofs.Ytblkpmelneignac
open Go.RowKit

theorem may_iff {f t : Int} : mayB (f, t) = true ↔ IsSet [(f, t)] := by
  unfold mayB
  rw [Bool.and_eq_true, askB_iff, decide_eq_true_eq]
  constructor
  · rintro ⟨h, h'⟩; exact ⟨by simp, ⟨h.1, h', h.2.2, trivial⟩⟩
  · rintro ⟨_, h1, h2, h3, _⟩; exact ⟨⟨h1, by show f ≤ t; have : f < t := h2; omega, h3⟩, h2⟩

set_option maxHeartbeats 4000000 in
theorem refadd_in (a : Option Addr) (c : Nat) (l : List Sp) (w : World) (f t : Int) (h : Ls w (.slice a l.length c) l) (hn : a = none → c = 0) :
    Calls Try.prog 30 #[.slice a l.length c, .agg #[.int .i64 f, .int .i64 t]] w (AddPost l (f, t) w) := by
  have hb0 := below_box w f t
  have d0 := box0 w (.int .i64 f) (.int .i64 t) 24
  have d1 := box1 w (.int .i64 f) (.int .i64 t) 24
  have hL0 := h.below hb0
  have HNc : Hid (a = none → c = 0) := hn
  clear hn
  go_enter Try.func30, Try.ntmps30
  go_wp2_with fail
  obtain ⟨w0, hw0⟩ : ∃ w0, w.alloc (.cells #[.int .i64 f, .int .i64 t] 24) = w0 := ⟨_, rfl⟩
  rw [hw0] at hb0 d0 d1 hL0 ⊢
  clear hw0
  have HL : Hid (∀ W, Below w0.heap.size w0 W → Ls W (.slice a l.length c) l) := fun W hW => hL0.below hW
  have HF : Hid (∀ W, Below w0.heap.size w0 W → Below w.heap.size w W) := fun W hW => hb0.trans (hW.mono hb0.size)
  have HD : Hid (∀ W, Below w0.heap.size w0 W → W.cell? ⟨w.heap.size, 0, none⟩ = some (.int .i64 f) ∧ W.cell? ⟨w.heap.size, 1, none⟩ = some (.int .i64 t)) := fun W hW => ⟨cell_below d0 hW, cell_below d1 hW⟩
  have hR := refright_ls hL0
  have HI : Hid (setB l = true → IsSet l) := setB_iff.mp
  have HI2 : Hid (IsSet l → setB l = true) := setB_iff.mpr
  have HJ : Hid (mayB (f, t) = true → IsSet [(f, t)]) := may_iff.mp
  have HJ2 : Hid (IsSet [(f, t)] → mayB (f, t) = true) := may_iff.mpr
  have hwz : w.heap.size ≤ w0.heap.size := hb0.size
  clear h hb0 d0 d1 hL0
  have hA : Hid (∀ W, Calls Try.prog 41 #[.agg #[.int .i64 f, .int .i64 t]] W fun e w' => e = .returned (.bool (mayB (f, t))) ∧ Below W.heap.size W w') := fun W => refmay_any f t W
  generalize setB l = V at *
  generalize mayB (f, t) = V' at *
  refine hR.mono ?_
  rintro e w1 ⟨rfl, hb1⟩
  have HB1 : Hid (Below w0.heap.size w0 w1) := hb1
  obtain ⟨k0, k1⟩ := HD.out w1 hb1
  clear hR hb1
  go_wp2_with fail
  refine (hA.out w1).mono ?_
  rintro e w2 ⟨rfl, hb2⟩
  have HB2 : Hid (Below w0.heap.size w0 w2) := HB1.out.trans (hb2.mono HB1.out.size)
  clear hA hb2 HB1 k0 k1
  obtain ⟨k0, k1⟩ := HD.out w2 HB2.out
  cases V with
  | false =>
    have HN : Hid (¬ IsSet l) := fun h => by have := HI2.out h; cases this
    clear HI HI2 HJ HJ2
    go_wp2
    go_ret3
    exact ⟨_, [], 0, 30, rfl, SOwn.nil _ _, ⟨.inl ⟨fun h => HN.out h.1, rfl, rfl⟩, .inr ⟨by omega, rfl⟩⟩, HF.out _ HB2.out⟩
  | true =>
    cases V' with
    | false =>
      have HN : Hid (¬ IsSet [(f, t)]) := fun h => by have := HJ2.out h; cases this
      clear HI HI2 HJ HJ2
      go_wp2
      go_ret3
      exact ⟨_, [], 0, 30, rfl, SOwn.nil _ _, ⟨.inl ⟨fun h => HN.out h.2, rfl, rfl⟩, .inr ⟨by omega, rfl⟩⟩, HF.out _ HB2.out⟩
    | true =>
      have SL : Hid (IsSet l) := HI.out rfl
      have AS : Hid (IsSet [(f, t)]) := HJ.out rfl
      clear HI HI2 HJ HJ2
      go_wp2_with fail
      refine (refput_in a c l w2 f t (HL.out w2 HB2.out) HNc.out SL.out ⟨AS.out.2.1, AS.out.2.2.1, AS.out.2.2.2.1⟩).mono ?_
      rintro e w3 ⟨v3, U, rfl, hs3, hu3, hb3⟩
      obtain ⟨a3, c3, rfl⟩ := hs3.shape
      have HB3 : Hid (Below w0.heap.size w0 w3) := HB2.out.trans (hb3.mono HB2.out.size)
      have HS3 : Hid (SOwn w3 w.heap.size (.slice a3 U.length c3) U) := hs3.base (Nat.le_trans hwz HB2.out.size)
      have HU : Hid (Uni l [(f, t)] U) := hu3
      have hlen : U.length ≤ 2001 := by have h1 := hu3.len; have h2 := SL.out.1; simp only [List.length_cons, List.length_nil] at h1; omega
      clear hs3 hu3 hb3 HB2 k0 k1
      by_cases hle : U.length ≤ 2000
      · have SU : IsSet U := ⟨hle, HU.out.rt⟩
        have hz := refsize_any (HS3.out.ls (by omega))
        rw [szB_set SU] at hz
        have q1 := siz_pos SU.2
        have q2 := siz_most SU.2 (by omega)
        have q3 := siz_pos SL.out.2
        have q4 := siz_most SL.out.2 (by omega)
        have HZ' : Hid (∀ W, Below w0.heap.size w0 W → Calls Try.prog 34 #[.slice a l.length c] W fun e w' => e = .returned (.int .i64 (siz l)) ∧ Below W.heap.size W w') := fun W hW => by
          have := refsize_any (HL.out W hW); rw [szB_set SL.out] at this; exact this
        have HN : Hid (∀ n, n = siz U - siz l → AR l (f, t) U n 0) := fun n hn => ⟨.inr ⟨SL.out, AS.out, U, HU.out, .inl ⟨hle, rfl, rfl⟩⟩, .inl ⟨rfl, hn⟩⟩
        clear SU
        generalize siz U = x at *
        generalize siz l = y at *
        have hle' : (U.length : Int) ≤ 2000 := by omega
        go_wp2_with fail
        refine hz.mono ?_
        rintro e w4 ⟨rfl, hb4⟩
        have HB4 : Hid (Below w0.heap.size w0 w4) := HB3.out.trans (hb4.mono HB3.out.size)
        have HS4 : Hid (SOwn w4 w.heap.size (.slice a3 U.length c3) U) := HS3.out.below hb4
        clear hz hb4 HB3 HS3
        go_wp2_with fail
        refine (HZ'.out w4 HB4.out).mono ?_
        rintro e w5 ⟨rfl, hb5⟩
        have HB5 : Hid (Below w0.heap.size w0 w5) := HB4.out.trans (hb5.mono HB4.out.size)
        have HS5 : Hid (SOwn w5 w.heap.size (.slice a3 U.length c3) U) := HS4.out.below hb5
        clear HZ' hb5 HB4 HS4
        go_wp2
        go_ret3
        exact ⟨_, U, _, 0, rfl, HS5.out, HN.out _ rfl, HF.out _ HB5.out⟩
      · have hgt : (2000 : Int) < (U.length : Int) := by omega
        go_wp2
        go_ret3
        exact ⟨_, [], 0, 3, rfl, SOwn.nil _ _, ⟨.inr ⟨SL.out, AS.out, U, HU.out, .inr ⟨by omega, rfl, rfl⟩⟩, .inr ⟨by omega, rfl⟩⟩, HF.out _ HB3.out⟩

end Go.Proofs.Ytblkpmelneignac
