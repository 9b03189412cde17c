import Derived.Test.YtblkpmelneignacGrp
namespace Go.Proofs.Ytblkpmelneignac
open Go.RowKit

theorem wth_set {l : List Sp} {s : Sp} (h : IsSet l) (ha : Asked s) : IsSet (wth l s) := ⟨by have := len_true (hi := s.2) (l := l) (p := s.1); have := h.1; unfold wth; omega, wth_rt h.2 ha⟩
theorem one_len (s : Sp) : (one s).length ≤ 1 := by unfold one; split <;> simp
theorem sum_union {l u : List Sp} {s : Sp} {er : Int} (h : IsSet l) (ha : Asked s) (hg : IsSet (gps l s)) (hu : UR (wth l s) (gps l s) u er) : u = one s ∧ er = 0 := by
  obtain ⟨U, u1, u2⟩ := hu.sets (wth_set h ha) hg
  have := both_math h.2 ha u1
  subst this
  rcases u2 with ⟨_, h1, h2⟩ | ⟨h1, _⟩
  · exact ⟨h2, h1⟩
  · have := one_len s; omega
theorem sum_back {l u : List Sp} {s : Sp} {er : Int} (h : IsSet l) (ha : Asked s) (hg : IsSet (gps l s)) (hu : GR false (gps l s) s u er) : u = wth l s ∧ er = 0 := by
  have := hu.gaps hg ha
  rw [back_math3 h.2 ha] at this
  rcases this with ⟨_, h1, h2⟩ | ⟨h1, _⟩
  · exact ⟨h2, h1⟩
  · have := (wth_set h ha).1; omega
theorem set_one {f t : Int} (ha : Asked (f, t)) (hf : f < t) : IsSet [(f, t)] := ⟨by simp, ⟨ha.1, hf, ha.2.2, trivial⟩⟩
theorem one_lt {f t : Int} (h : f < t) : one (f, t) = [(f, t)] := by unfold one; rw [if_pos h]
theorem one_eq (f : Int) : one (f, f) = [] := by unfold one; rw [if_neg (by simp)]

set_option maxHeartbeats 8000000 in
set_option maxRecDepth 100000 in
theorem sum_in {a : Option Addr} {c : Nat} {l : List Sp} {w : World} (f t : Int) (h : Ls w (.slice a l.length c) l) :
    Calls Try.prog 7 #[.slice a l.length c, .agg #[.int .i64 f, .int .i64 t]] w fun e w' => e = .returned (.bool true) ∧ Below w.heap.size w w' := by
  have hb0 := below_box w f t
  have d0 := box0 w (.int .i64 f) (.int .i64 t) 24
  have d1 := box1 w (.int .i64 f) (.int .i64 t) 24
  have hL0 := h.below hb0
  go_enter Try.func7, Try.ntmps7
  go_wp2_with fail
  obtain ⟨w0, hw0⟩ : ∃ w0, w.alloc (.cells #[.int .i64 f, .int .i64 t] 24) = w0 := ⟨_, rfl⟩
  rw [hw0] at hb0 d0 d1 hL0 ⊢
  clear hw0
  have HL : Hid (∀ W, Below w0.heap.size w0 W → Ls W (.slice a l.length c) l) := fun W hW => hL0.below hW
  have HF : Hid (∀ W, Below w0.heap.size w0 W → Below w.heap.size w W) := fun W hW => hb0.trans (hW.mono hb0.size)
  have HD : Hid (∀ W, Below w0.heap.size w0 W → W.cell? ⟨w.heap.size, 0, none⟩ = some (.int .i64 f) ∧ W.cell? ⟨w.heap.size, 1, none⟩ = some (.int .i64 t)) := fun W hW => ⟨cell_below d0 hW, cell_below d1 hW⟩
  clear h hb0 d0 d1 hL0
  refine (awake_any _).mono ?_
  rintro e w1 ⟨rfl, hb1⟩
  have HB1 : Hid (Below w0.heap.size w0 w1) := hb1
  clear hb1
  have HRp : Hid (∀ W, Below w0.heap.size w0 W → Calls Try.prog 23 #[.slice a l.length c] W fun e w' => e = .returned (.bool (setB l)) ∧ Below W.heap.size W w') := fun W hW => right_ls (HL.out W hW)
  have HRr : Hid (∀ W, Below w0.heap.size w0 W → Calls Try.prog 24 #[.slice a l.length c] W fun e w' => e = .returned (.bool (setB l)) ∧ Below W.heap.size W w') := fun W hW => refright_ls (HL.out W hW)
  have HQ : Hid (setB l = true → IsSet l) := setB_iff.mp
  generalize setB l = V at *
  go_wp2_with fail
  refine (HRp.out w1 HB1.out).mono ?_
  rintro e w2 ⟨rfl, hb2⟩
  have HB2 : Hid (Below w0.heap.size w0 w2) := HB1.out.trans (hb2.mono HB1.out.size)
  clear hb2 HB1 HRp
  go_wp2_with fail
  refine (HRr.out w2 HB2.out).mono ?_
  rintro e w3 ⟨rfl, hb3⟩
  have HB3 : Hid (Below w0.heap.size w0 w3) := HB2.out.trans (hb3.mono HB2.out.size)
  obtain ⟨k0, k1⟩ := HD.out w3 HB3.out
  clear hb3 HB2 HRr
  cases V with
  | false =>
    clear HQ
    by_cases x1 : 0 ≤ f
    · by_cases x2 : f ≤ t
      · by_cases x3 : t ≤ 4611686018427387903
        · go_wp2
          go_ret
          exact ⟨rfl, HF.out _ HB3.out⟩
        · go_wp2
          go_ret
          exact ⟨rfl, HF.out _ HB3.out⟩
      · go_wp2
        go_ret
        exact ⟨rfl, HF.out _ HB3.out⟩
    · go_wp2
      go_ret
      exact ⟨rfl, HF.out _ HB3.out⟩
  | true =>
    have SL : Hid (IsSet l) := HQ.out rfl
    clear HQ
    rcases Int.lt_or_le f 0 with x1 | x1
    · go_wp2
      go_ret
      exact ⟨rfl, HF.out _ HB3.out⟩
    rcases Int.lt_or_le t f with x2 | x2
    · go_wp2
      go_ret
      exact ⟨rfl, HF.out _ HB3.out⟩
    rcases Int.lt_or_le 4611686018427387903 t with x3 | x3
    · have x4 : decide (t ≤ 4611686018427387903) = false := decide_eq_false (by omega)
      go_wp2
      go_ret
      exact ⟨rfl, HF.out _ HB3.out⟩
    have AS : Hid (Asked (f, t)) := ⟨x1, x2, x3⟩
    go_wp2_with fail
    refine (within_any f t (HL.out w3 HB3.out)).mono ?_
    rintro e w4 ⟨v4, u4, e4, rfl, hs4, hr4, hb4⟩
    obtain ⟨rfl, rfl⟩ := hr4.within SL.out AS.out
    obtain ⟨a4, c4, rfl⟩ := hs4.shape
    have HB4 : Hid (Below w0.heap.size w0 w4) := HB3.out.trans (hb4.mono HB3.out.size)
    have HS4 : Hid (SOwn w4 w0.heap.size (.slice a4 (wth l (f, t)).length c4) (wth l (f, t))) := hs4.base HB3.out.size
    have SW : Hid (IsSet (wth l (f, t))) := wth_set SL.out AS.out
    have lw := SW.out.1
    clear hs4 hr4 hb4 HB3 k0 k1
    obtain ⟨k0, k1⟩ := HD.out w4 HB4.out
    go_wp2_with fail
    refine (gaps_any f t (HL.out w4 HB4.out)).mono ?_
    rintro e w5 ⟨v5, g, e5, rfl, hs5, hr5, hb5⟩
    obtain ⟨a5, c5, rfl⟩ := hs5.shape
    have HB5 : Hid (Below w0.heap.size w0 w5) := HB4.out.trans (hb5.mono HB4.out.size)
    have HS5 : Hid (SOwn w5 w0.heap.size (.slice a5 g.length c5) g) := hs5.base HB4.out.size
    have HS4' : Hid (SOwn w5 w0.heap.size (.slice a4 (wth l (f, t)).length c4) (wth l (f, t))) := HS4.out.below hb5
    have HG5 : Hid (BR (gps l (f, t)) g e5) := hr5.gaps SL.out AS.out
    have hcv := cv_of hr5
    have lg := hr5.len
    clear hs5 hr5 hb5 HB4 HS4 k0 k1
    obtain ⟨k0, k1⟩ := HD.out w5 HB5.out
    have hco := covers_any f t (HL.out w5 HB5.out)
    rw [hcv] at hco
    clear hcv
    have h5 : e5 = 3 ∨ e5 = 0 := by rcases HG5.out with ⟨_, h, _⟩ | ⟨_, h, _⟩ <;> omega
    rcases h5 with h5 | h5
    · subst h5
      rw [show (decide ((3 : Int) = 0) && decide (g.length = 0)) = false from rfl] at hco
      go_wp2_with fail
      refine hco.mono ?_
      rintro e w6 ⟨rfl, hb6⟩
      have HB6 : Hid (Below w0.heap.size w0 w6) := HB5.out.trans (hb6.mono HB5.out.size)
      clear hco hb6
      go_wp2
      go_ret
      exact ⟨rfl, HF.out _ HB6.out⟩
    subst h5
    obtain ⟨B, hB⟩ : ∃ B, ((g.length : Int) == 0) = B := ⟨_, rfl⟩
    rw [show (decide ((0 : Int) = 0) && decide (g.length = 0)) = B from by
      rw [← hB]; by_cases hz : g.length = 0
      · simp [hz]
      · rw [decide_eq_false hz, Bool.and_false]; exact (beq_false_of_ne (by omega)).symm] at hco
    go_wp2_with fail
    refine hco.mono ?_
    rintro e w6 ⟨rfl, hb6⟩
    have HB6 : Hid (Below w0.heap.size w0 w6) := HB5.out.trans (hb6.mono HB5.out.size)
    have HS4'' : Hid (SOwn w6 w0.heap.size (.slice a4 (wth l (f, t)).length c4) (wth l (f, t))) := HS4'.out.below hb6
    have HS5' : Hid (SOwn w6 w0.heap.size (.slice a5 g.length c5) g) := HS5.out.below hb6
    clear hco hb6 HB5 HS4' HS5 k0 k1
    obtain ⟨k0, k1⟩ := HD.out w6 HB6.out
    have hgg : g = gps l (f, t) ∧ (gps l (f, t)).length ≤ 2000 := by
      rcases HG5.out with ⟨h1, _, h2⟩ | ⟨_, h, _⟩
      · exact ⟨h2, h1⟩
      · omega
    obtain ⟨rfl, lg'⟩ := hgg
    have SG : Hid (IsSet (gps l (f, t))) := ⟨lg', gps_rt SL.out.2 AS.out⟩
    clear HG5
    have hz1 := size_ls (HS4''.out.ls (by omega))
    rw [szB_set SW.out] at hz1
    have HZ2 : Hid (∀ W, Ls W (.slice a5 (gps l (f, t)).length c5) (gps l (f, t)) → Calls Try.prog 28 #[.slice a5 (gps l (f, t)).length c5] W fun e w' => e = .returned (.int .i64 (siz (gps l (f, t)))) ∧ Below W.heap.size W w') := fun W hW => by
      have := size_ls hW; rw [szB_set SG.out] at this; exact this
    have hsum := sum_math SL.out.2 AS.out
    have q1 := siz_pos SW.out.2
    have q2 := siz_most SW.out.2 (by omega)
    have q3 := siz_pos SG.out.2
    have q4 := siz_most SG.out.2 (by omega)
    have HNEW : Hid (∀ u, Uni l [(f, t)] u → siz u = siz l + siz (gps l (f, t))) := fun u hu => new_math SL.out.2 AS.out hu
    have HUN : Hid (∀ u er, UR (wth l (f, t)) (gps l (f, t)) u er → u = one (f, t) ∧ er = 0) := fun u er hu => sum_union SL.out AS.out SG.out hu
    have HBK : Hid (∀ u er, GR false (gps l (f, t)) (f, t) u er → u = wth l (f, t) ∧ er = 0) := fun u er hu => sum_back SL.out AS.out SG.out hu
    simp only at hsum
    generalize wth l (f, t) = W1 at *
    generalize gps l (f, t) = G1 at *
    generalize siz W1 = nw at *
    generalize siz G1 = ng at *
    go_wp2_with fail
    refine hz1.mono ?_
    rintro e w7 ⟨rfl, hb7⟩
    have HB7 : Hid (Below w0.heap.size w0 w7) := HB6.out.trans (hb7.mono HB6.out.size)
    have HW7 : Hid (SOwn w7 w0.heap.size (.slice a4 W1.length c4) W1) := HS4''.out.below hb7
    have HG7 : Hid (SOwn w7 w0.heap.size (.slice a5 G1.length c5) G1) := HS5'.out.below hb7
    clear hz1 hb7 HB6 HS4'' HS5' k0 k1
    go_wp2_with fail
    refine (HZ2.out w7 (HG7.out.ls (by omega))).mono ?_
    rintro e w8 ⟨rfl, hb8⟩
    have HB8 : Hid (Below w0.heap.size w0 w8) := HB7.out.trans (hb8.mono HB7.out.size)
    have HW8 : Hid (SOwn w8 w0.heap.size (.slice a4 W1.length c4) W1) := HW7.out.below hb8
    have HG8 : Hid (SOwn w8 w0.heap.size (.slice a5 G1.length c5) G1) := HG7.out.below hb8
    clear hb8 HB7 HW7 HG7 HZ2
    go_wp2_with fail
    refine (union_any (HW8.out.ls (by omega)) (HG8.out.ls (by omega))).mono ?_
    rintro e w9 ⟨v9, u9, e9, rfl, hs9, hr9, hb9⟩
    obtain ⟨rfl, rfl⟩ := HUN.out _ _ hr9
    have HB9 : Hid (Below w0.heap.size w0 w9) := HB8.out.trans (hb9.mono HB8.out.size)
    have HW9 : Hid (SOwn w9 w0.heap.size (.slice a4 W1.length c4) W1) := HW8.out.below hb9
    have HG9 : Hid (SOwn w9 w0.heap.size (.slice a5 G1.length c5) G1) := HG8.out.below hb9
    have HS9 : Hid (SOwn w9 w8.heap.size v9 (one (f, t))) := hs9
    clear hs9 hr9 hb9 HB8 HW8 HG8 HUN
    obtain ⟨k0, k1⟩ := HD.out w9 HB9.out
    by_cases hft : f = t
    · subst hft
      rw [one_eq] at HS9
      obtain ⟨a9, c9, hv9⟩ := HS9.out.shape
      subst hv9
      simp only [List.length_nil] at *
      clear HS9
      go_wp2_with fail
      go_quiet (fail)
      have HB10 : Hid (∀ n, Below w0.heap.size w0 (w9.drewN n)) := fun n => below_drewN HB9.out n
      have HG10 : Hid (∀ n, SOwn (w9.drewN n) w0.heap.size (.slice a5 G1.length c5) G1) := fun n => HG9.out.drewN n
      go_wp2_with fail
      refine (gaps_any f f ((HG10.out _).ls (by omega))).mono ?_
      rintro e w11 ⟨v11, u11, e11, rfl, hs11, hr11, hb11⟩
      obtain ⟨rfl, rfl⟩ := HBK.out _ _ hr11
      obtain ⟨a11, c11, rfl⟩ := hs11.shape
      have HB11 : Hid (Below w0.heap.size w0 w11) := (HB10.out _).trans (hb11.mono HB9.out.size)
      have HW11 : Hid (SOwn w11 w0.heap.size (.slice a4 u11.length c4) u11) := SOwn.below (HW9.out.drewN _) hb11
      have hsm := same_ls (hs11.ls (by omega)) (HW11.out.ls (by omega))
      rw [show eqB u11 u11 = true from decide_eq_true rfl] at hsm
      clear hs11 hr11 hb11 HB9 HW9 HG9 HB10 HG10 HBK k0 k1
      go_wp2_with fail
      refine hsm.mono ?_
      rintro e w12 ⟨rfl, hb12⟩
      have HB12 : Hid (Below w0.heap.size w0 w12) := HB11.out.trans (hb12.mono HB11.out.size)
      clear hsm hb12 HB11 HW11
      obtain ⟨k0, k1⟩ := HD.out w12 HB12.out
      have hnw : nw = 0 := by omega
      have hng : ng = 0 := by omega
      subst hnw
      subst hng
      clear hsum q1 q2 q3 q4
      go_wp2
      go_ret
      exact ⟨rfl, HF.out _ HB12.out⟩
    · have hlt : f < t := by omega
      rw [one_lt hlt] at HS9
      obtain ⟨a9, c9, hv9⟩ := HS9.out.shape
      subst hv9
      obtain ⟨g9, o9, rfl, j0, j1⟩ := HS9.out.spa.head
      simp only [List.length_cons, List.length_nil, Nat.zero_add] at *
      clear HS9
      go_wp2_with fail
      go_quiet (fail)
      have HB10 : Hid (∀ n, Below w0.heap.size w0 (w9.drewN n)) := fun n => below_drewN HB9.out n
      have HG10 : Hid (∀ n, SOwn (w9.drewN n) w0.heap.size (.slice a5 G1.length c5) G1) := fun n => HG9.out.drewN n
      go_wp2_with fail
      refine (gaps_any f t ((HG10.out _).ls (by omega))).mono ?_
      rintro e w11 ⟨v11, u11, e11, rfl, hs11, hr11, hb11⟩
      obtain ⟨rfl, rfl⟩ := HBK.out _ _ hr11
      obtain ⟨a11, c11, rfl⟩ := hs11.shape
      have HB11 : Hid (Below w0.heap.size w0 w11) := (HB10.out _).trans (hb11.mono HB9.out.size)
      have HW11 : Hid (SOwn w11 w0.heap.size (.slice a4 u11.length c4) u11) := SOwn.below (HW9.out.drewN _) hb11
      have hsm := same_ls (hs11.ls (by omega)) (HW11.out.ls (by omega))
      rw [show eqB u11 u11 = true from decide_eq_true rfl] at hsm
      clear hs11 hr11 hb11 HB9 HW9 HG9 HB10 HG10 HBK k0 k1 j0 j1
      go_wp2_with fail
      refine hsm.mono ?_
      rintro e w12 ⟨rfl, hb12⟩
      have HB12 : Hid (Below w0.heap.size w0 w12) := HB11.out.trans (hb12.mono HB11.out.size)
      clear hsm hb12 HB11 HW11
      obtain ⟨k0, k1⟩ := HD.out w12 HB12.out
      have hA := add_any f t (HL.out w12 HB12.out)
      go_wp2_with fail
      refine hA.mono ?_
      rintro e w13 ⟨v13, x, n, e13, rfl, hs13, hr13, hb13⟩
      obtain ⟨a13, c13, rfl⟩ := hs13.shape
      have HB13 : Hid (Below w0.heap.size w0 w13) := HB12.out.trans (hb13.mono HB12.out.size)
      have HS13 : Hid (SOwn w13 w0.heap.size (.slice a13 x.length c13) x) := hs13.base HB12.out.size
      have HR13 : Hid (AR l (f, t) x n e13) := hr13
      have lx := hr13.1.len
      have hU := union_any ((HL.out w13 HB13.out).below (below_box w13 f t)) (ls_box w13 f t w13.heap.size rfl)
      clear hA hs13 hr13 hb13 HB12 k0 k1
      obtain ⟨k0, k1⟩ := HD.out w13 HB13.out
      go_wp2_with fail
      refine hU.mono ?_
      rintro e w14 ⟨v14, y, e14, rfl, hs14, hr14, hb14⟩
      obtain ⟨rfl, rfl⟩ := HR13.out.1.uniq hr14
      obtain ⟨a14, c14, rfl⟩ := hs14.shape
      have HB14 : Hid (Below w0.heap.size w0 w14) := (HB13.out.alloc HB13.out.size _).trans (hb14.mono (by have := HB13.out.size; simp; omega))
      have HS14 : Hid (SOwn w14 w0.heap.size (.slice a13 x.length c13) x) := (HS13.out.below (below_box w13 f t)).below hb14
      have hsm := same_ls (HS14.out.ls (by omega)) (hs14.ls (by omega))
      rw [show eqB x x = true from decide_eq_true rfl] at hsm
      have t13 := HR13.out.1.two SL.out (set_one AS.out hlt)
      clear hU hs14 hr14 hb14 HB13 HS13 k0 k1
      go_wp2_with fail
      refine hsm.mono ?_
      rintro e w15 ⟨rfl, hb15⟩
      have HB15 : Hid (Below w0.heap.size w0 w15) := HB14.out.trans (hb15.mono HB14.out.size)
      have HS15 : Hid (SOwn w15 w0.heap.size (.slice a13 x.length c13) x) := HS14.out.below hb15
      have hz := size_ls (HS15.out.ls (by omega))
      have HZl : Hid (∀ W, Below w0.heap.size w0 W → Calls Try.prog 28 #[.slice a l.length c] W fun e w' => e = .returned (.int .i64 (siz l)) ∧ Below W.heap.size W w') := fun W hW => by
        have := size_ls (HL.out W hW); rw [szB_set SL.out] at this; exact this
      have p1 := siz_pos SL.out.2
      have p2 := siz_most SL.out.2 (by omega)
      clear hsm hb15 HB14 HS14
      rcases t13 with h13 | h13
      · subst h13
        obtain ⟨_, _, UX, SX⟩ := HR13.out.1.ok rfl
        rw [szB_set SX] at hz
        have hnew := HNEW.out x UX
        have p3 := siz_pos SX.2
        have p4 := siz_most SX.2 (by omega)
        have hn : n = siz x - siz l := by
          rcases HR13.out.2 with ⟨_, h⟩ | ⟨h, _⟩
          · exact h
          · exact absurd rfl h
        clear HR13 HNEW UX SX
        generalize siz x = nx at *
        generalize siz l = nl at *
        subst hn
        have he1 : nx - nl = ng := by omega
        rw [he1]
        have he2 : nx = nl + ng := by omega
        subst he2
        clear hnew he1
        go_wp2_with fail
        refine hz.mono ?_
        rintro e w16 ⟨rfl, hb16⟩
        have HB16 : Hid (Below w0.heap.size w0 w16) := HB15.out.trans (hb16.mono HB15.out.size)
        clear hz hb16 HB15 HS15
        go_wp2_with fail
        refine (HZl.out w16 HB16.out).mono ?_
        rintro e w17 ⟨rfl, hb17⟩
        have HB17 : Hid (Below w0.heap.size w0 w17) := HB16.out.trans (hb17.mono HB16.out.size)
        clear hb17 HB16 HZl
        go_wp2
        go_ret
        exact ⟨by simp, HF.out _ HB17.out⟩
      · subst h13
        clear HR13 HNEW
        generalize szB x = nx at *
        generalize siz l = nl at *
        go_wp2_with fail
        refine hz.mono ?_
        rintro e w16 ⟨rfl, hb16⟩
        have HB16 : Hid (Below w0.heap.size w0 w16) := HB15.out.trans (hb16.mono HB15.out.size)
        clear hz hb16 HB15 HS15
        go_wp2_with fail
        refine (HZl.out w16 HB16.out).mono ?_
        rintro e w17 ⟨rfl, hb17⟩
        have HB17 : Hid (Below w0.heap.size w0 w17) := HB16.out.trans (hb17.mono HB16.out.size)
        clear hb17 HB16 HZl
        go_wp2
        go_ret
        exact ⟨by simp, HF.out _ HB17.out⟩

theorem sum_any {v : Value} {l : List Sp} {w : World} (h : Ls w v l) (f t : Int) (_ : (-9223372036854775808 ≤ f ∧ f ≤ 9223372036854775807) ∧ (-9223372036854775808 ≤ t ∧ t ≤ 9223372036854775807)) :
    Calls Try.prog 7 #[v, .agg #[.int .i64 f, .int .i64 t]] w fun e w' => e = .returned (.bool true) ∧ Below w.heap.size w w' := by
  obtain ⟨a, c, rfl, _⟩ := h.shape
  exact sum_in f t h

end Go.Proofs.Ytblkpmelneignac
