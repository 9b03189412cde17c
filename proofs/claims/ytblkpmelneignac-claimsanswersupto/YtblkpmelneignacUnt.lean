import Derived.Test.YtblkpmelneignacKee
import Derived.Test.YtblkpmelneignacRfu
namespace Go.Proofs.Ytblkpmelneignac
open Go.RowKit

theorem SOwn.ls_take {W : World} {base g cap N n c : Nat} {L : List Sp} (h : SOwn W base (.slice (some ⟨g, 0, none⟩) N cap) L) (hn : n ≤ N) (hc : n ≤ c) (hc2 : c ≤ 9223372036854775807) : Ls W (.slice (some ⟨g, 0, none⟩) n c) (L.take n) := by
  have hl := h.lenEq
  have ht : (L.take n).length = n := by simp; omega
  refine ⟨⟨some ⟨g, 0, none⟩, c, by rw [ht], ?_, by rw [ht]; exact hc, hc2⟩, by rw [ht]; omega⟩
  rcases h.spa with h0 | ⟨g', off, ha, hcell⟩
  · left; rw [h0]; simp
  · right
    refine ⟨g', off, ha, fun i p hp => ?_⟩
    rw [List.getElem?_take] at hp
    split at hp
    · exact hcell i p hp
    · cases hp
theorem mkd_take (l : List Sp) : (mkd l).take l.length = l := by simp [mkd]

theorem refunion_any {v v' : Value} {l m : List Sp} {w : World} (h : Ls w v l) (h' : Ls w v' m) : Calls Try.prog 15 #[v, v'] w (UnionPost l m w) := by
  obtain ⟨a, c, rfl, _⟩ := h.shape
  obtain ⟨b, d, rfl, _⟩ := h'.shape
  by_cases hq : IsSet l ∧ IsSet m
  · exact refunion_in a b c d l m w h h' hq.1 hq.2
  · have HN : Hid (¬ (IsSet l ∧ IsSet m)) := hq
    have HI : Hid (setB l = true → IsSet l) := setB_iff.mp
    have HI' : Hid (setB m = true → IsSet m) := setB_iff.mp
    have hR := refright_ls h
    have HR2 : Hid (∀ W, Below w.heap.size w W → Calls Try.prog 24 #[.slice b m.length d] W fun e w' => e = .returned (.bool (setB m)) ∧ Below W.heap.size W w') := fun W hW => refright_ls (h'.below hW)
    clear h h' hq
    generalize setB l = V at *
    generalize setB m = V' at *
    go_enter Try.func15, Try.ntmps15
    go_wp2_with fail
    refine hR.mono ?_
    rintro e w1 ⟨rfl, hb1⟩
    have HB1 : Hid (Below w.heap.size w w1) := hb1
    clear hR hb1
    go_wp2_with fail
    refine (HR2.out w1 HB1.out).mono ?_
    rintro e w2 ⟨rfl, hb2⟩
    have HB2 : Hid (Below w.heap.size w w2) := HB1.out.trans (hb2.mono HB1.out.size)
    clear hb2 HB1 HR2
    cases V with
    | false =>
      clear HI HI'
      go_wp2
      go_ret2
      exact ⟨_, [], 30, rfl, SOwn.nil _ _, .inl ⟨HN.out, rfl, rfl⟩, HB2.out⟩
    | true =>
      cases V' with
      | true => exact absurd ⟨HI.out rfl, HI'.out rfl⟩ HN.out
      | false =>
        clear HI HI'
        go_wp2
        go_ret2
        exact ⟨_, [], 30, rfl, SOwn.nil _ _, .inl ⟨HN.out, rfl, rfl⟩, HB2.out⟩

theorem own_none {v : Value} (h : ∀ g, v.ownBlock ≠ some g) : v.ownBlock = none := by
  cases hv : v.ownBlock with
  | none => rfl
  | some g => exact absurd hv (h g)

/-- A row that another block's turn leaves. -/
theorem SOwn.grown {W W' : World} {base g : Nat} {v : Value} {l : List Sp} (h : SOwn W base v l) (hg : W.grownBy W' (some g)) (hn : v.ownBlock ≠ some g) : SOwn W' base v l :=
  World.ownsRow.kept h hg (by
    cases hv : v.ownBlock with
    | none => left; rfl
    | some k => right; rw [hv] at hn; exact hn)
theorem spa_src {W : World} {l : List Sp} {g : Nat} (h : Spa W (some ⟨g, 0, none⟩) l) : ∀ j u, (l.flatMap spc)[j]? = some u → W.cell? ((⟨g, 0, none⟩ : Addr).add j) = some u := by
  intro j u hj
  have hjl : j < l.length * 2 := by
    rw [← spc_len]
    exact (List.getElem?_eq_some_iff.mp hj).1
  obtain ⟨p, hp⟩ := get_some l (j / 2) (by omega)
  obtain ⟨g', off, he, c1, c2⟩ := h.at hp
  simp only [Option.some.injEq, Addr.mk.injEq, and_true] at he
  obtain ⟨rfl, rfl⟩ := he
  obtain ⟨q1, q2⟩ := spc_get l (j / 2) p hp
  rw [show (⟨g, 0, none⟩ : Addr).add j = ⟨g, j, none⟩ from by unfold Addr.add; split <;> simp_all]
  rcases Nat.mod_two_eq_zero_or_one j with e | e
  · rw [show j / 2 * 2 = j from by omega] at q1
    rw [show 0 + j / 2 * 2 = j from by omega] at c1
    rw [c1, ← hj, q1]
  · rw [show j / 2 * 2 + 1 = j from by omega] at q2
    rw [show 0 + j / 2 * 2 + 1 = j from by omega] at c2
    rw [c2, ← hj, q2]

set_option maxHeartbeats 16000000 in
set_option maxRecDepth 100000 in
theorem unites_in (aa ab : Option Addr) (ca cb : Nat) (a b : List Sp) (w : World) (ha : Ls w (.slice aa a.length ca) a) (hb : Ls w (.slice ab b.length cb) b) (ma : a.length ≤ 1048576) (mb : b.length ≤ 1048576) :
    Calls Try.prog 4 #[.slice aa a.length ca, .slice ab b.length cb] w fun e w' => e = .returned (.bool true) ∧ Below w.heap.size w w' := by
  obtain ⟨i0, hi, hz0, hz1, hz2⟩ := info_parts Try.info_span
  have HA : Hid (∀ W, Below w.heap.size w W → Ls W (.slice aa a.length ca) a) := fun W hW => ha.below hW
  have HB : Hid (∀ W, Below w.heap.size w W → Ls W (.slice ab b.length cb) b) := fun W hW => hb.below hW
  obtain ⟨w0, hw0⟩ : ∃ w0, w0 = w := ⟨w, rfl⟩
  have HW0 : Hid (Below w.heap.size w w0) := by rw [hw0]; exact Below.refl _ _
  rw [← hw0]
  have sz0 : w.heap.size ≤ w0.heap.size := by rw [hw0]; exact Nat.le_refl _
  have HE0 : Hid (w0 = w) := hw0
  clear ha hb hw0
  go_enter Try.func4, Try.ntmps4
  go_wp2_with fail
  refine (awake_any w0).mono ?_
  rintro e w1 ⟨rfl, hb1⟩
  have HW1 : Hid (Below w.heap.size w w1) := HW0.out.trans (hb1.mono HW0.out.size)
  have sz1 : w0.heap.size ≤ w1.heap.size := hb1.size
  clear hb1
  go_wp2_with fail
  refine (lent_any (HA.out w1 HW1.out) ma).mono ?_
  rintro e w2 ⟨rfl, hs2, hb2⟩
  have HW2 : Hid (Below w.heap.size w w2) := HW1.out.trans (hb2.mono HW1.out.size)
  have sz2 : w1.heap.size ≤ w2.heap.size := hb2.size
  have OA : Hid (SOwn w2 w1.heap.size (.slice (some ⟨w1.heap.size, 0, none⟩) (a.length + 2) (a.length + 2)) (mkd a)) := hs2
  have pA : w1.heap.size < w2.heap.size := (hs2.lt _ rfl).2
  clear hb2 hs2
  go_wp2_with fail
  refine (lent_any (HB.out w2 HW2.out) mb).mono ?_
  rintro e w3 ⟨rfl, hs3, hb3⟩
  have HW3 : Hid (Below w.heap.size w w3) := HW2.out.trans (hb3.mono HW2.out.size)
  have sz3 : w2.heap.size ≤ w3.heap.size := hb3.size
  replace OA : Hid (SOwn w3 w1.heap.size (.slice (some ⟨w1.heap.size, 0, none⟩) (a.length + 2) (a.length + 2)) (mkd a)) := OA.out.below hb3
  have OB : Hid (SOwn w3 w2.heap.size (.slice (some ⟨w2.heap.size, 0, none⟩) (b.length + 2) (b.length + 2)) (mkd b)) := hs3
  have pB : w2.heap.size < w3.heap.size := (hs3.lt _ rfl).2
  clear hb3 hs3
  have HX : Hid (∀ W, SOwn W w1.heap.size (.slice (some ⟨w1.heap.size, 0, none⟩) (a.length + 2) (a.length + 2)) (mkd a) → Ls W (.slice (some ⟨w1.heap.size, 0, none⟩) a.length (a.length + 2)) a) := fun W hW => by have := hW.ls_take (n := a.length) (c := a.length + 2) (by omega) (by omega) (by omega); rw [mkd_take] at this; exact this
  have HY : Hid (∀ W, SOwn W w2.heap.size (.slice (some ⟨w2.heap.size, 0, none⟩) (b.length + 2) (b.length + 2)) (mkd b) → Ls W (.slice (some ⟨w2.heap.size, 0, none⟩) b.length (b.length + 2)) b) := fun W hW => by have := hW.ls_take (n := b.length) (c := b.length + 2) (by omega) (by omega) (by omega); rw [mkd_take] at this; exact this
  go_wp2_with fail
  refine (refunion_any (HA.out w3 HW3.out) (HB.out w3 HW3.out)).mono ?_
  rintro e w4 ⟨v4, u, er, rfl, hs4, hr4, hb4⟩
  have HW4 : Hid (Below w.heap.size w w4) := HW3.out.trans (hb4.mono HW3.out.size)
  have sz4 : w3.heap.size ≤ w4.heap.size := hb4.size
  replace OA : Hid (SOwn w4 w1.heap.size (.slice (some ⟨w1.heap.size, 0, none⟩) (a.length + 2) (a.length + 2)) (mkd a)) := OA.out.below hb4
  replace OB : Hid (SOwn w4 w2.heap.size (.slice (some ⟨w2.heap.size, 0, none⟩) (b.length + 2) (b.length + 2)) (mkd b)) := OB.out.below hb4
  obtain ⟨a4, c4, rfl⟩ := hs4.shape
  have HU : Hid (UR a b u er) := hr4
  have lu := hr4.len
  have O4 : Hid (SOwn w4 w3.heap.size (.slice a4 u.length c4) (u)) := hs4
  clear hb4 hs4 hr4
  go_wp2_with fail
  refine (union_any (HX.out w4 OA.out) (HY.out w4 OB.out)).mono ?_
  rintro e w5 ⟨v5, u5, e5, rfl, hs5, hr5, hb5⟩
  have HW5 : Hid (Below w.heap.size w w5) := HW4.out.trans (hb5.mono HW4.out.size)
  have sz5 : w4.heap.size ≤ w5.heap.size := hb5.size
  replace OA : Hid (SOwn w5 w1.heap.size (.slice (some ⟨w1.heap.size, 0, none⟩) (a.length + 2) (a.length + 2)) (mkd a)) := OA.out.below hb5
  replace OB : Hid (SOwn w5 w2.heap.size (.slice (some ⟨w2.heap.size, 0, none⟩) (b.length + 2) (b.length + 2)) (mkd b)) := OB.out.below hb5
  replace O4 : Hid (SOwn w5 w3.heap.size (.slice a4 u.length c4) (u)) := O4.out.below hb5
  have h5a := (hr5.uniq HU.out).1.symm
  have h5b := (hr5.uniq HU.out).2.symm
  subst h5a
  subst h5b
  obtain ⟨a5, c5, rfl⟩ := hs5.shape
  have O5 : Hid (SOwn w5 w4.heap.size (.slice a5 u.length c5) (u)) := hs5
  have p5 : Hid (∀ g, (Value.slice a5 u.length c5).ownBlock = some g → w4.heap.size ≤ g ∧ g < w5.heap.size) := hs5.lt
  clear hb5 hs5 hr5
  go_wp2_with fail
  refine (union_any (HY.out w5 OB.out) (HX.out w5 OA.out)).mono ?_
  rintro e w6 ⟨v6, u6, e6, rfl, hs6, hr6, hb6⟩
  have HW6 : Hid (Below w.heap.size w w6) := HW5.out.trans (hb6.mono HW5.out.size)
  have sz6 : w5.heap.size ≤ w6.heap.size := hb6.size
  replace OA : Hid (SOwn w6 w1.heap.size (.slice (some ⟨w1.heap.size, 0, none⟩) (a.length + 2) (a.length + 2)) (mkd a)) := OA.out.below hb6
  replace OB : Hid (SOwn w6 w2.heap.size (.slice (some ⟨w2.heap.size, 0, none⟩) (b.length + 2) (b.length + 2)) (mkd b)) := OB.out.below hb6
  replace O4 : Hid (SOwn w6 w3.heap.size (.slice a4 u.length c4) (u)) := O4.out.below hb6
  replace O5 : Hid (SOwn w6 w4.heap.size (.slice a5 u.length c5) (u)) := O5.out.below hb6
  have h6a := (hr6.swap.uniq HU.out).1.symm
  have h6b := (hr6.swap.uniq HU.out).2.symm
  subst h6a
  subst h6b
  obtain ⟨a6, c6, rfl⟩ := hs6.shape
  have O6 : Hid (SOwn w6 w5.heap.size (.slice a6 u.length c6) (u)) := hs6
  have p6 : Hid (∀ g, (Value.slice a6 u.length c6).ownBlock = some g → w5.heap.size ≤ g ∧ g < w6.heap.size) := hs6.lt
  clear hb6 hs6 hr6
  go_wp2_with fail
  refine (union_any (HX.out w6 OA.out) (HY.out w6 OB.out)).mono ?_
  rintro e w7 ⟨v7, u7, e7, rfl, hs7, hr7, hb7⟩
  have HW7 : Hid (Below w.heap.size w w7) := HW6.out.trans (hb7.mono HW6.out.size)
  have sz7 : w6.heap.size ≤ w7.heap.size := hb7.size
  replace OA : Hid (SOwn w7 w1.heap.size (.slice (some ⟨w1.heap.size, 0, none⟩) (a.length + 2) (a.length + 2)) (mkd a)) := OA.out.below hb7
  replace OB : Hid (SOwn w7 w2.heap.size (.slice (some ⟨w2.heap.size, 0, none⟩) (b.length + 2) (b.length + 2)) (mkd b)) := OB.out.below hb7
  replace O4 : Hid (SOwn w7 w3.heap.size (.slice a4 u.length c4) (u)) := O4.out.below hb7
  replace O5 : Hid (SOwn w7 w4.heap.size (.slice a5 u.length c5) (u)) := O5.out.below hb7
  replace O6 : Hid (SOwn w7 w5.heap.size (.slice a6 u.length c6) (u)) := O6.out.below hb7
  have h7a := (hr7.uniq HU.out).1.symm
  have h7b := (hr7.uniq HU.out).2.symm
  subst h7a
  subst h7b
  obtain ⟨a7, c7, rfl⟩ := hs7.shape
  have O7 : Hid (SOwn w7 w6.heap.size (.slice a7 u.length c7) (u)) := hs7
  have p7 : Hid (∀ g, (Value.slice a7 u.length c7).ownBlock = some g → w6.heap.size ≤ g ∧ g < w7.heap.size) := hs7.lt
  clear hb7 hs7 hr7
  have hsm8 := same_ls (O5.out.ls (by omega)) (O4.out.ls (by omega))
  rw [show eqB u u = true from decide_eq_true rfl] at hsm8
  go_wp2_with fail
  refine (hsm8).mono ?_
  rintro e w8 ⟨rfl, hb8⟩
  have HW8 : Hid (Below w.heap.size w w8) := HW7.out.trans (hb8.mono HW7.out.size)
  have sz8 : w7.heap.size ≤ w8.heap.size := hb8.size
  replace OA : Hid (SOwn w8 w1.heap.size (.slice (some ⟨w1.heap.size, 0, none⟩) (a.length + 2) (a.length + 2)) (mkd a)) := OA.out.below hb8
  replace OB : Hid (SOwn w8 w2.heap.size (.slice (some ⟨w2.heap.size, 0, none⟩) (b.length + 2) (b.length + 2)) (mkd b)) := OB.out.below hb8
  replace O4 : Hid (SOwn w8 w3.heap.size (.slice a4 u.length c4) (u)) := O4.out.below hb8
  replace O5 : Hid (SOwn w8 w4.heap.size (.slice a5 u.length c5) (u)) := O5.out.below hb8
  replace O6 : Hid (SOwn w8 w5.heap.size (.slice a6 u.length c6) (u)) := O6.out.below hb8
  replace O7 : Hid (SOwn w8 w6.heap.size (.slice a7 u.length c7) (u)) := O7.out.below hb8
  clear hb8 hsm8
  have hsm9 := same_ls (O6.out.ls (by omega)) (O4.out.ls (by omega))
  rw [show eqB u u = true from decide_eq_true rfl] at hsm9
  go_wp2_with fail
  refine (hsm9).mono ?_
  rintro e w9 ⟨rfl, hb9⟩
  have HW9 : Hid (Below w.heap.size w w9) := HW8.out.trans (hb9.mono HW8.out.size)
  have sz9 : w8.heap.size ≤ w9.heap.size := hb9.size
  replace OA : Hid (SOwn w9 w1.heap.size (.slice (some ⟨w1.heap.size, 0, none⟩) (a.length + 2) (a.length + 2)) (mkd a)) := OA.out.below hb9
  replace OB : Hid (SOwn w9 w2.heap.size (.slice (some ⟨w2.heap.size, 0, none⟩) (b.length + 2) (b.length + 2)) (mkd b)) := OB.out.below hb9
  replace O4 : Hid (SOwn w9 w3.heap.size (.slice a4 u.length c4) (u)) := O4.out.below hb9
  replace O5 : Hid (SOwn w9 w4.heap.size (.slice a5 u.length c5) (u)) := O5.out.below hb9
  replace O6 : Hid (SOwn w9 w5.heap.size (.slice a6 u.length c6) (u)) := O6.out.below hb9
  replace O7 : Hid (SOwn w9 w6.heap.size (.slice a7 u.length c7) (u)) := O7.out.below hb9
  clear hb9 hsm9
  have hsm10 := same_ls (O7.out.ls (by omega)) (O4.out.ls (by omega))
  rw [show eqB u u = true from decide_eq_true rfl] at hsm10
  go_wp2_with fail
  refine (hsm10).mono ?_
  rintro e w10 ⟨rfl, hb10⟩
  have HW10 : Hid (Below w.heap.size w w10) := HW9.out.trans (hb10.mono HW9.out.size)
  have sz10 : w9.heap.size ≤ w10.heap.size := hb10.size
  replace OA : Hid (SOwn w10 w1.heap.size (.slice (some ⟨w1.heap.size, 0, none⟩) (a.length + 2) (a.length + 2)) (mkd a)) := OA.out.below hb10
  replace OB : Hid (SOwn w10 w2.heap.size (.slice (some ⟨w2.heap.size, 0, none⟩) (b.length + 2) (b.length + 2)) (mkd b)) := OB.out.below hb10
  replace O4 : Hid (SOwn w10 w3.heap.size (.slice a4 u.length c4) (u)) := O4.out.below hb10
  replace O5 : Hid (SOwn w10 w4.heap.size (.slice a5 u.length c5) (u)) := O5.out.below hb10
  replace O6 : Hid (SOwn w10 w5.heap.size (.slice a6 u.length c6) (u)) := O6.out.below hb10
  replace O7 : Hid (SOwn w10 w6.heap.size (.slice a7 u.length c7) (u)) := O7.out.below hb10
  clear hb10 hsm10
  go_wp2_with fail
  refine (lent_any (HA.out w10 HW10.out) ma).mono ?_
  rintro e w11 ⟨rfl, hs11, hb11⟩
  have HW11 : Hid (Below w.heap.size w w11) := HW10.out.trans (hb11.mono HW10.out.size)
  have sz11 : w10.heap.size ≤ w11.heap.size := hb11.size
  replace OA : Hid (SOwn w11 w1.heap.size (.slice (some ⟨w1.heap.size, 0, none⟩) (a.length + 2) (a.length + 2)) (mkd a)) := OA.out.below hb11
  replace OB : Hid (SOwn w11 w2.heap.size (.slice (some ⟨w2.heap.size, 0, none⟩) (b.length + 2) (b.length + 2)) (mkd b)) := OB.out.below hb11
  replace O5 : Hid (SOwn w11 w4.heap.size (.slice a5 u.length c5) (u)) := O5.out.below hb11
  replace O6 : Hid (SOwn w11 w5.heap.size (.slice a6 u.length c6) (u)) := O6.out.below hb11
  replace O7 : Hid (SOwn w11 w6.heap.size (.slice a7 u.length c7) (u)) := O7.out.below hb11
  clear hb11
  have hsm12 := same_ls (OA.out.ls (by rw [mkd_len]; omega)) (hs11.ls (by rw [mkd_len]; omega))
  rw [show eqB (mkd a) (mkd a) = true from decide_eq_true rfl] at hsm12
  go_wp2_with fail
  refine (hsm12).mono ?_
  rintro e w12 ⟨rfl, hb12⟩
  have HW12 : Hid (Below w.heap.size w w12) := HW11.out.trans (hb12.mono HW11.out.size)
  have sz12 : w11.heap.size ≤ w12.heap.size := hb12.size
  replace OA : Hid (SOwn w12 w1.heap.size (.slice (some ⟨w1.heap.size, 0, none⟩) (a.length + 2) (a.length + 2)) (mkd a)) := OA.out.below hb12
  replace OB : Hid (SOwn w12 w2.heap.size (.slice (some ⟨w2.heap.size, 0, none⟩) (b.length + 2) (b.length + 2)) (mkd b)) := OB.out.below hb12
  replace O5 : Hid (SOwn w12 w4.heap.size (.slice a5 u.length c5) (u)) := O5.out.below hb12
  replace O6 : Hid (SOwn w12 w5.heap.size (.slice a6 u.length c6) (u)) := O6.out.below hb12
  replace O7 : Hid (SOwn w12 w6.heap.size (.slice a7 u.length c7) (u)) := O7.out.below hb12
  clear hb12 hsm12 hs11
  go_wp2_with fail
  refine (lent_any (HB.out w12 HW12.out) mb).mono ?_
  rintro e w13 ⟨rfl, hs13, hb13⟩
  have HW13 : Hid (Below w.heap.size w w13) := HW12.out.trans (hb13.mono HW12.out.size)
  have sz13 : w12.heap.size ≤ w13.heap.size := hb13.size
  replace OA : Hid (SOwn w13 w1.heap.size (.slice (some ⟨w1.heap.size, 0, none⟩) (a.length + 2) (a.length + 2)) (mkd a)) := OA.out.below hb13
  replace OB : Hid (SOwn w13 w2.heap.size (.slice (some ⟨w2.heap.size, 0, none⟩) (b.length + 2) (b.length + 2)) (mkd b)) := OB.out.below hb13
  replace O5 : Hid (SOwn w13 w4.heap.size (.slice a5 u.length c5) (u)) := O5.out.below hb13
  replace O6 : Hid (SOwn w13 w5.heap.size (.slice a6 u.length c6) (u)) := O6.out.below hb13
  replace O7 : Hid (SOwn w13 w6.heap.size (.slice a7 u.length c7) (u)) := O7.out.below hb13
  clear hb13
  have hsm14 := same_ls (OB.out.ls (by rw [mkd_len]; omega)) (hs13.ls (by rw [mkd_len]; omega))
  rw [show eqB (mkd b) (mkd b) = true from decide_eq_true rfl] at hsm14
  go_wp2_with fail
  refine (hsm14).mono ?_
  rintro e w14 ⟨rfl, hb14⟩
  have HW14 : Hid (Below w.heap.size w w14) := HW13.out.trans (hb14.mono HW13.out.size)
  have sz14 : w13.heap.size ≤ w14.heap.size := hb14.size
  replace OA : Hid (SOwn w14 w1.heap.size (.slice (some ⟨w1.heap.size, 0, none⟩) (a.length + 2) (a.length + 2)) (mkd a)) := OA.out.below hb14
  replace OB : Hid (SOwn w14 w2.heap.size (.slice (some ⟨w2.heap.size, 0, none⟩) (b.length + 2) (b.length + 2)) (mkd b)) := OB.out.below hb14
  replace O5 : Hid (SOwn w14 w4.heap.size (.slice a5 u.length c5) (u)) := O5.out.below hb14
  replace O6 : Hid (SOwn w14 w5.heap.size (.slice a6 u.length c6) (u)) := O6.out.below hb14
  replace O7 : Hid (SOwn w14 w6.heap.size (.slice a7 u.length c7) (u)) := O7.out.below hb14
  clear hb14 hsm14 hs13
  clear O4
  go_wp2_with fail
  refine (spaced_any w1.heap.size a.length (a.length + 2) (a.length + 2) (mkd a) w1.heap.size (a.length + 2) w14 OA.out (by omega) ma).mono ?_
  rintro e w15 ⟨⟨vs, rfl⟩, hs15, hg15⟩
  have OS : Hid (SOwn w15 w1.heap.size (.slice (some ⟨w1.heap.size, 0, none⟩) (a.length + 2) (a.length + 2)) (spd a.length ++ (mkd a).drop a.length)) := hs15
  have HW15 : Hid (Below w.heap.size w w15) := HW14.out.grown hg15 HW14.out.size (fun k e => by cases e; omega)
  have sz15 : w14.heap.size ≤ w15.heap.size := hg15.size
  replace OB : Hid (SOwn w15 w2.heap.size (.slice (some ⟨w2.heap.size, 0, none⟩) (b.length + 2) (b.length + 2)) (mkd b)) := OB.out.grown hg15 (by simp [Value.ownBlock]; omega)
  replace O5 : Hid (SOwn w15 w4.heap.size (.slice a5 u.length c5) (u)) := O5.out.grown hg15 (fun e => by have := p5.out _ e; omega)
  replace O6 : Hid (SOwn w15 w5.heap.size (.slice a6 u.length c6) (u)) := O6.out.grown hg15 (fun e => by have := p6.out _ e; omega)
  replace O7 : Hid (SOwn w15 w6.heap.size (.slice a7 u.length c7) (u)) := O7.out.grown hg15 (fun e => by have := p7.out _ e; omega)
  clear hs15 hg15 OA
  have HXs : Hid (∀ W, SOwn W w1.heap.size (.slice (some ⟨w1.heap.size, 0, none⟩) (a.length + 2) (a.length + 2)) (spd a.length ++ (mkd a).drop a.length) → Ls W (.slice (some ⟨w1.heap.size, 0, none⟩) a.length (a.length + 2)) (spd a.length)) := fun W hW => by have := hW.ls_take (n := a.length) (c := a.length + 2) (by omega) (by omega) (by omega); rw [List.take_left' (spd_len _)] at this; exact this
  clear HX HU
  have hsrc := (HXs.out w15 OS.out)
  have hspa : Spa w15 (some ⟨w1.heap.size, 0, none⟩) (spd a.length) := by obtain ⟨a', c', hv, hs, _⟩ := hsrc.shape; simp only [Value.slice.injEq] at hv; obtain ⟨rfl, _, _⟩ := hv; exact hs
  have HSrc : Hid (∀ j u, ((spd a.length).flatMap spc)[j]? = some u → w15.cell? ((⟨w1.heap.size, 0, none⟩ : Addr).add j) = some u) := spa_src hspa
  clear hsrc hspa
  go_wp2_with (at_builtin; refine wpList_append_own_at _ rfl _ _ 22 rfl w15.heap.size 24 i0 (.agg #[.int .i64 0, .int .i64 0]) 2 16 Try.underlying22 hi hz0 hz1 hz2 rfl (by decide) _ _ _ rfl (World.ownsRow_nil _ _ _ _) ⟨w1.heap.size, 0, none⟩ a.length (a.length + 2) ((spd a.length).flatMap spc) rfl (by rw [spc_len, spd_len]) HSrc.out ?c2 ?c3 ?c4 (Nat.le_refl _) ?_)
  case c2 => intro v hv; obtain ⟨p, _, hp⟩ := List.mem_flatMap.mp hv; simp [spc] at hp; rcases hp with rfl | rfl <;> rfl
  case c3 => unfold maxLen; omega
  case c4 => omega
  intro vo w16 hown16 hgrow16 _ _
  have hb16 : Below w15.heap.size w15 w16 := (Below.refl _ _).grown hgrow16 (Nat.le_refl _) (by intro k e; cases e)
  have hs16 : SOwn w16 w15.heap.size vo (spd a.length) := by unfold SOwn; rw [spd_len]; simpa using hown16
  obtain ⟨a16, c16, hvo⟩ := hs16.shape
  rw [spd_len] at hvo
  subst hvo
  have HW16 : Hid (Below w.heap.size w w16) := HW15.out.trans (hb16.mono HW15.out.size)
  have sz16 : w15.heap.size ≤ w16.heap.size := hb16.size
  replace OS : Hid (SOwn w16 w1.heap.size (.slice (some ⟨w1.heap.size, 0, none⟩) (a.length + 2) (a.length + 2)) (spd a.length ++ (mkd a).drop a.length)) := OS.out.below hb16
  replace OB : Hid (SOwn w16 w2.heap.size (.slice (some ⟨w2.heap.size, 0, none⟩) (b.length + 2) (b.length + 2)) (mkd b)) := OB.out.below hb16
  replace O5 : Hid (SOwn w16 w4.heap.size (.slice a5 u.length c5) (u)) := O5.out.below hb16
  replace O6 : Hid (SOwn w16 w5.heap.size (.slice a6 u.length c6) (u)) := O6.out.below hb16
  replace O7 : Hid (SOwn w16 w6.heap.size (.slice a7 u.length c7) (u)) := O7.out.below hb16
  have OO : Hid (SOwn w16 w15.heap.size (.slice a16 a.length c16) (spd a.length)) := hs16
  have pO : Hid (∀ g, (Value.slice a16 a.length c16).ownBlock = some g → w15.heap.size ≤ g ∧ g < w16.heap.size) := hs16.lt
  clear hown16 hgrow16 hb16 hs16 HSrc
  have HLo : Hid (∀ W, SOwn W w15.heap.size (.slice a16 a.length c16) (spd a.length) → Ls W (.slice a16 a.length c16) (spd a.length)) := fun W hW => hW.ls (by rw [spd_len]; omega)
  go_wp2_with fail
  refine (refunion_any (HLo.out w16 OO.out) (HB.out w16 HW16.out)).mono ?_
  rintro e w17 ⟨v17, u2, er2, rfl, hs17, hr17, hb17⟩
  have HW17 : Hid (Below w.heap.size w w17) := HW16.out.trans (hb17.mono HW16.out.size)
  have sz17 : w16.heap.size ≤ w17.heap.size := hb17.size
  replace OS : Hid (SOwn w17 w1.heap.size (.slice (some ⟨w1.heap.size, 0, none⟩) (a.length + 2) (a.length + 2)) (spd a.length ++ (mkd a).drop a.length)) := OS.out.below hb17
  replace OB : Hid (SOwn w17 w2.heap.size (.slice (some ⟨w2.heap.size, 0, none⟩) (b.length + 2) (b.length + 2)) (mkd b)) := OB.out.below hb17
  replace O5 : Hid (SOwn w17 w4.heap.size (.slice a5 u.length c5) (u)) := O5.out.below hb17
  replace O6 : Hid (SOwn w17 w5.heap.size (.slice a6 u.length c6) (u)) := O6.out.below hb17
  replace O7 : Hid (SOwn w17 w6.heap.size (.slice a7 u.length c7) (u)) := O7.out.below hb17
  replace OO : Hid (SOwn w17 w15.heap.size (.slice a16 a.length c16) (spd a.length)) := OO.out.below hb17
  obtain ⟨a17, c17, rfl⟩ := hs17.shape
  have HU2 : Hid (UR (spd a.length) b u2 er2) := hr17
  have lu2 := hr17.len
  have O17 : Hid (SOwn w17 w16.heap.size (.slice a17 u2.length c17) (u2)) := hs17
  clear hb17 hs17 hr17
  go_wp2_with fail
  refine (union_any (HXs.out w17 OS.out) (HY.out w17 OB.out)).mono ?_
  rintro e w18 ⟨v18, u18, e18, rfl, hs18, hr18, hb18⟩
  have HW18 : Hid (Below w.heap.size w w18) := HW17.out.trans (hb18.mono HW17.out.size)
  have sz18 : w17.heap.size ≤ w18.heap.size := hb18.size
  replace OS : Hid (SOwn w18 w1.heap.size (.slice (some ⟨w1.heap.size, 0, none⟩) (a.length + 2) (a.length + 2)) (spd a.length ++ (mkd a).drop a.length)) := OS.out.below hb18
  replace OB : Hid (SOwn w18 w2.heap.size (.slice (some ⟨w2.heap.size, 0, none⟩) (b.length + 2) (b.length + 2)) (mkd b)) := OB.out.below hb18
  replace O5 : Hid (SOwn w18 w4.heap.size (.slice a5 u.length c5) (u)) := O5.out.below hb18
  replace O6 : Hid (SOwn w18 w5.heap.size (.slice a6 u.length c6) (u)) := O6.out.below hb18
  replace O7 : Hid (SOwn w18 w6.heap.size (.slice a7 u.length c7) (u)) := O7.out.below hb18
  replace OO : Hid (SOwn w18 w15.heap.size (.slice a16 a.length c16) (spd a.length)) := OO.out.below hb18
  replace O17 : Hid (SOwn w18 w16.heap.size (.slice a17 u2.length c17) (u2)) := O17.out.below hb18
  have h18a := (hr18.uniq HU2.out).1.symm
  have h18b := (hr18.uniq HU2.out).2.symm
  subst h18a
  subst h18b
  obtain ⟨a18, c18, rfl⟩ := hs18.shape
  have O18 : Hid (SOwn w18 w17.heap.size (.slice a18 u2.length c18) (u2)) := hs18
  have p18 : Hid (∀ g, (Value.slice a18 u2.length c18).ownBlock = some g → w17.heap.size ≤ g ∧ g < w18.heap.size) := hs18.lt
  clear hb18 hs18 hr18
  have hsm19 := same_ls (O18.out.ls (by omega)) (O17.out.ls (by omega))
  rw [show eqB u2 u2 = true from decide_eq_true rfl] at hsm19
  go_wp2_with fail
  refine (hsm19).mono ?_
  rintro e w19 ⟨rfl, hb19⟩
  have HW19 : Hid (Below w.heap.size w w19) := HW18.out.trans (hb19.mono HW18.out.size)
  have sz19 : w18.heap.size ≤ w19.heap.size := hb19.size
  replace OS : Hid (SOwn w19 w1.heap.size (.slice (some ⟨w1.heap.size, 0, none⟩) (a.length + 2) (a.length + 2)) (spd a.length ++ (mkd a).drop a.length)) := OS.out.below hb19
  replace OB : Hid (SOwn w19 w2.heap.size (.slice (some ⟨w2.heap.size, 0, none⟩) (b.length + 2) (b.length + 2)) (mkd b)) := OB.out.below hb19
  replace O5 : Hid (SOwn w19 w4.heap.size (.slice a5 u.length c5) (u)) := O5.out.below hb19
  replace O6 : Hid (SOwn w19 w5.heap.size (.slice a6 u.length c6) (u)) := O6.out.below hb19
  replace O7 : Hid (SOwn w19 w6.heap.size (.slice a7 u.length c7) (u)) := O7.out.below hb19
  replace OO : Hid (SOwn w19 w15.heap.size (.slice a16 a.length c16) (spd a.length)) := OO.out.below hb19
  replace O17 : Hid (SOwn w19 w16.heap.size (.slice a17 u2.length c17) (u2)) := O17.out.below hb19
  replace O18 : Hid (SOwn w19 w17.heap.size (.slice a18 u2.length c18) (u2)) := O18.out.below hb19
  clear hb19 hsm19 O17 HU2
  have bk20 := Bkp.start (W := w19) (lo := w.heap.size) HW19.out.size
  have hb20 : Below w19.heap.size w19 (w19.alloc (.cells #[.slice none 0 0, .slice none 0 0] 30)) := (Below.refl _ _).alloc (Nat.le_refl _) _
  have HBk : Hid (w19.heap.size = w19.heap.size) := rfl
  have OS' : Hid (SOwn (w19.alloc (.cells #[.slice none 0 0, .slice none 0 0] 30)) w1.heap.size (.slice (some ⟨w1.heap.size, 0, none⟩) (a.length + 2) (a.length + 2)) (spd a.length ++ (mkd a).drop a.length)) := OS.out.below hb20
  have OB' : Hid (SOwn (w19.alloc (.cells #[.slice none 0 0, .slice none 0 0] 30)) w2.heap.size (.slice (some ⟨w2.heap.size, 0, none⟩) (b.length + 2) (b.length + 2)) (mkd b)) := OB.out.below hb20
  have O5' : Hid (SOwn (w19.alloc (.cells #[.slice none 0 0, .slice none 0 0] 30)) w4.heap.size (.slice a5 u.length c5) (u)) := O5.out.below hb20
  have O6' : Hid (SOwn (w19.alloc (.cells #[.slice none 0 0, .slice none 0 0] 30)) w5.heap.size (.slice a6 u.length c6) (u)) := O6.out.below hb20
  have O7' : Hid (SOwn (w19.alloc (.cells #[.slice none 0 0, .slice none 0 0] 30)) w6.heap.size (.slice a7 u.length c7) (u)) := O7.out.below hb20
  have OO' : Hid (SOwn (w19.alloc (.cells #[.slice none 0 0, .slice none 0 0] 30)) w15.heap.size (.slice a16 a.length c16) (spd a.length)) := OO.out.below hb20
  have O18' : Hid (SOwn (w19.alloc (.cells #[.slice none 0 0, .slice none 0 0] 30)) w17.heap.size (.slice a18 u2.length c18) (u2)) := O18.out.below hb20
  have HW20 : Hid (Below w.heap.size w (w19.alloc (.cells #[.slice none 0 0, .slice none 0 0] 30))) := HW19.out.trans (hb20.mono HW19.out.size)
  have HS20 : Hid ((w19.alloc (.cells #[.slice none 0 0, .slice none 0 0] 30)).heap.size = w19.heap.size + 1) := by unfold Hid; simp
  have HB20 : Hid (Bkp (w19.alloc (.cells #[.slice none 0 0, .slice none 0 0] 30)) w.heap.size w19.heap.size (.slice none 0 0) []) := bk20
  clear bk20 hb20 HBk OS OB O5 O6 O7 OO O18 HLo
  go_wp2_with fail
  obtain ⟨w20, hw20⟩ : ∃ w20, w19.alloc (.cells #[.slice none 0 0, .slice none 0 0] 30) = w20 := ⟨_, rfl⟩
  rw [hw20] at OS' OB' O5' O6' O7' OO' O18' HW20 HS20 HB20 ⊢
  clear hw20
  have sz20 : w19.heap.size < w20.heap.size := by have := HS20.out; omega
  have T20 : Hid (∀ g, (Value.slice none 0 0).ownBlock = some g → w20.heap.size ≤ g) := fun g e => by cases e
  have fr21 : Frs w20 w.heap.size w19.heap.size (.slice none 0 0) [] (.slice a5 u.length c5, u) := ⟨O5'.out.base (by omega), fun g hg => ⟨by have := p5.out g hg; omega, fun e => by have := T20.out g e; have := p5.out g hg; omega⟩, (fun j y hy => by simp at hy), by show u.length ≤ 1048576; omega⟩
  skip
  refine (keep_any HB20.out fr21 (by simp)).mono ?_
  rintro e w21 ⟨⟨x21, rfl⟩, lv21, hbk21, hk21, hl21⟩
  have HB21 : Hid (Bkp w21 w.heap.size w19.heap.size lv21 [(Value.slice a5 u.length c5, u)]) := hbk21
  have T21 : Hid (∀ g, lv21.ownBlock = some g → w20.heap.size ≤ g) := fun g e => by
    rcases hl21 g e with h | h
    · exact T20.out g h
    · have := sz20; have := (Nat.le_refl w20.heap.size); omega
  have sy21 : Hid (w20.heap.size ≤ w21.heap.size) := by have := hk21.size; have := (Nat.le_refl w20.heap.size); unfold Hid; omega
  have sz21 := hk21.size
  replace OS' : Hid (SOwn w21 w1.heap.size (.slice (some ⟨w1.heap.size, 0, none⟩) (a.length + 2) (a.length + 2)) (spd a.length ++ (mkd a).drop a.length)) := OS'.out.kp hk21 (fun g hg => by simp [Value.ownBlock] at hg; intro h; rcases h with h | h; omega; have := T20.out g h; omega)
  replace OB' : Hid (SOwn w21 w2.heap.size (.slice (some ⟨w2.heap.size, 0, none⟩) (b.length + 2) (b.length + 2)) (mkd b)) := OB'.out.kp hk21 (fun g hg => by simp [Value.ownBlock] at hg; intro h; rcases h with h | h; omega; have := T20.out g h; omega)
  replace O5' : Hid (SOwn w21 w4.heap.size (.slice a5 u.length c5) (u)) := O5'.out.kp hk21 (fun g hg h => by have := p5.out g hg; rcases h with h | h; omega; have := T20.out g h; omega)
  replace O6' : Hid (SOwn w21 w5.heap.size (.slice a6 u.length c6) (u)) := O6'.out.kp hk21 (fun g hg h => by have := p6.out g hg; rcases h with h | h; omega; have := T20.out g h; omega)
  replace O7' : Hid (SOwn w21 w6.heap.size (.slice a7 u.length c7) (u)) := O7'.out.kp hk21 (fun g hg h => by have := p7.out g hg; rcases h with h | h; omega; have := T20.out g h; omega)
  replace OO' : Hid (SOwn w21 w15.heap.size (.slice a16 a.length c16) (spd a.length)) := OO'.out.kp hk21 (fun g hg h => by have := pO.out g hg; rcases h with h | h; omega; have := T20.out g h; omega)
  replace O18' : Hid (SOwn w21 w17.heap.size (.slice a18 u2.length c18) (u2)) := O18'.out.kp hk21 (fun g hg h => by have := p18.out g hg; rcases h with h | h; omega; have := T20.out g h; omega)
  have HW21 : Hid (Below w.heap.size w w21) := HW20.out.trans (hk21.below (fun g h => by rcases h with h | h; omega; have := T20.out g h; omega) HW20.out.size)
  clear hbk21 hk21 hl21 fr21 HB20 HW20
  have fr22 : Frs w21 w.heap.size w19.heap.size lv21 [(Value.slice a5 u.length c5, u)] (.slice a6 u.length c6, u) := ⟨O6'.out.base (by omega), fun g hg => ⟨by have := p6.out g hg; omega, fun e => by have := T21.out g e; have := p6.out g hg; omega⟩, (fun j y hy g hg => by
    have hm := List.mem_of_getElem? hy
    simp only [List.mem_cons, List.not_mem_nil, or_false] at hm
    subst hm
    · intro e; have := p5.out g e; have := p6.out g hg; omega), by show u.length ≤ 1048576; omega⟩
  go_wp2_with fail
  refine (keep_any HB21.out fr22 (by simp)).mono ?_
  rintro e w22 ⟨⟨x22, rfl⟩, lv22, hbk22, hk22, hl22⟩
  have HB22 : Hid (Bkp w22 w.heap.size w19.heap.size lv22 [(Value.slice a5 u.length c5, u), (Value.slice a6 u.length c6, u)]) := hbk22
  have T22 : Hid (∀ g, lv22.ownBlock = some g → w20.heap.size ≤ g) := fun g e => by
    rcases hl22 g e with h | h
    · exact T21.out g h
    · have := sz21; have := sy21.out; omega
  have sy22 : Hid (w20.heap.size ≤ w22.heap.size) := by have := hk22.size; have := sy21.out; unfold Hid; omega
  have sz22 := hk22.size
  replace OS' : Hid (SOwn w22 w1.heap.size (.slice (some ⟨w1.heap.size, 0, none⟩) (a.length + 2) (a.length + 2)) (spd a.length ++ (mkd a).drop a.length)) := OS'.out.kp hk22 (fun g hg => by simp [Value.ownBlock] at hg; intro h; rcases h with h | h; omega; have := T21.out g h; omega)
  replace OB' : Hid (SOwn w22 w2.heap.size (.slice (some ⟨w2.heap.size, 0, none⟩) (b.length + 2) (b.length + 2)) (mkd b)) := OB'.out.kp hk22 (fun g hg => by simp [Value.ownBlock] at hg; intro h; rcases h with h | h; omega; have := T21.out g h; omega)
  replace O5' : Hid (SOwn w22 w4.heap.size (.slice a5 u.length c5) (u)) := O5'.out.kp hk22 (fun g hg h => by have := p5.out g hg; rcases h with h | h; omega; have := T21.out g h; omega)
  replace O6' : Hid (SOwn w22 w5.heap.size (.slice a6 u.length c6) (u)) := O6'.out.kp hk22 (fun g hg h => by have := p6.out g hg; rcases h with h | h; omega; have := T21.out g h; omega)
  replace O7' : Hid (SOwn w22 w6.heap.size (.slice a7 u.length c7) (u)) := O7'.out.kp hk22 (fun g hg h => by have := p7.out g hg; rcases h with h | h; omega; have := T21.out g h; omega)
  replace OO' : Hid (SOwn w22 w15.heap.size (.slice a16 a.length c16) (spd a.length)) := OO'.out.kp hk22 (fun g hg h => by have := pO.out g hg; rcases h with h | h; omega; have := T21.out g h; omega)
  replace O18' : Hid (SOwn w22 w17.heap.size (.slice a18 u2.length c18) (u2)) := O18'.out.kp hk22 (fun g hg h => by have := p18.out g hg; rcases h with h | h; omega; have := T21.out g h; omega)
  have HW22 : Hid (Below w.heap.size w w22) := HW21.out.trans (hk22.below (fun g h => by rcases h with h | h; omega; have := T21.out g h; omega) HW21.out.size)
  clear hbk22 hk22 hl22 fr22 HB21 HW21
  have fr23 : Frs w22 w.heap.size w19.heap.size lv22 [(Value.slice a5 u.length c5, u), (Value.slice a6 u.length c6, u)] (.slice a7 u.length c7, u) := ⟨O7'.out.base (by omega), fun g hg => ⟨by have := p7.out g hg; omega, fun e => by have := T22.out g e; have := p7.out g hg; omega⟩, (fun j y hy g hg => by
    have hm := List.mem_of_getElem? hy
    simp only [List.mem_cons, List.not_mem_nil, or_false] at hm
    rcases hm with rfl | rfl
    · intro e; have := p5.out g e; have := p7.out g hg; omega
    · intro e; have := p6.out g e; have := p7.out g hg; omega), by show u.length ≤ 1048576; omega⟩
  go_wp2_with fail
  refine (keep_any HB22.out fr23 (by simp)).mono ?_
  rintro e w23 ⟨⟨x23, rfl⟩, lv23, hbk23, hk23, hl23⟩
  have HB23 : Hid (Bkp w23 w.heap.size w19.heap.size lv23 [(Value.slice a5 u.length c5, u), (Value.slice a6 u.length c6, u), (Value.slice a7 u.length c7, u)]) := hbk23
  have T23 : Hid (∀ g, lv23.ownBlock = some g → w20.heap.size ≤ g) := fun g e => by
    rcases hl23 g e with h | h
    · exact T22.out g h
    · have := sz22; have := sy22.out; omega
  have sy23 : Hid (w20.heap.size ≤ w23.heap.size) := by have := hk23.size; have := sy22.out; unfold Hid; omega
  have sz23 := hk23.size
  replace OS' : Hid (SOwn w23 w1.heap.size (.slice (some ⟨w1.heap.size, 0, none⟩) (a.length + 2) (a.length + 2)) (spd a.length ++ (mkd a).drop a.length)) := OS'.out.kp hk23 (fun g hg => by simp [Value.ownBlock] at hg; intro h; rcases h with h | h; omega; have := T22.out g h; omega)
  replace OB' : Hid (SOwn w23 w2.heap.size (.slice (some ⟨w2.heap.size, 0, none⟩) (b.length + 2) (b.length + 2)) (mkd b)) := OB'.out.kp hk23 (fun g hg => by simp [Value.ownBlock] at hg; intro h; rcases h with h | h; omega; have := T22.out g h; omega)
  replace O5' : Hid (SOwn w23 w4.heap.size (.slice a5 u.length c5) (u)) := O5'.out.kp hk23 (fun g hg h => by have := p5.out g hg; rcases h with h | h; omega; have := T22.out g h; omega)
  replace O6' : Hid (SOwn w23 w5.heap.size (.slice a6 u.length c6) (u)) := O6'.out.kp hk23 (fun g hg h => by have := p6.out g hg; rcases h with h | h; omega; have := T22.out g h; omega)
  replace O7' : Hid (SOwn w23 w6.heap.size (.slice a7 u.length c7) (u)) := O7'.out.kp hk23 (fun g hg h => by have := p7.out g hg; rcases h with h | h; omega; have := T22.out g h; omega)
  replace OO' : Hid (SOwn w23 w15.heap.size (.slice a16 a.length c16) (spd a.length)) := OO'.out.kp hk23 (fun g hg h => by have := pO.out g hg; rcases h with h | h; omega; have := T22.out g h; omega)
  replace O18' : Hid (SOwn w23 w17.heap.size (.slice a18 u2.length c18) (u2)) := O18'.out.kp hk23 (fun g hg h => by have := p18.out g hg; rcases h with h | h; omega; have := T22.out g h; omega)
  have HW23 : Hid (Below w.heap.size w w23) := HW22.out.trans (hk23.below (fun g h => by rcases h with h | h; omega; have := T22.out g h; omega) HW22.out.size)
  clear hbk23 hk23 hl23 fr23 HB22 HW22
  have fr24 : Frs w23 w.heap.size w19.heap.size lv23 [(Value.slice a5 u.length c5, u), (Value.slice a6 u.length c6, u), (Value.slice a7 u.length c7, u)] (.slice a18 u2.length c18, u2) := ⟨O18'.out.base (by omega), fun g hg => ⟨by have := p18.out g hg; omega, fun e => by have := T23.out g e; have := p18.out g hg; omega⟩, (fun j y hy g hg => by
    have hm := List.mem_of_getElem? hy
    simp only [List.mem_cons, List.not_mem_nil, or_false] at hm
    rcases hm with rfl | rfl | rfl
    · intro e; have := p5.out g e; have := p18.out g hg; omega
    · intro e; have := p6.out g e; have := p18.out g hg; omega
    · intro e; have := p7.out g e; have := p18.out g hg; omega), by show u2.length ≤ 1048576; omega⟩
  go_wp2_with fail
  refine (keep_any HB23.out fr24 (by simp)).mono ?_
  rintro e w24 ⟨⟨x24, rfl⟩, lv24, hbk24, hk24, hl24⟩
  have HB24 : Hid (Bkp w24 w.heap.size w19.heap.size lv24 [(Value.slice a5 u.length c5, u), (Value.slice a6 u.length c6, u), (Value.slice a7 u.length c7, u), (Value.slice a18 u2.length c18, u2)]) := hbk24
  have T24 : Hid (∀ g, lv24.ownBlock = some g → w20.heap.size ≤ g) := fun g e => by
    rcases hl24 g e with h | h
    · exact T23.out g h
    · have := sz23; have := sy23.out; omega
  have sy24 : Hid (w20.heap.size ≤ w24.heap.size) := by have := hk24.size; have := sy23.out; unfold Hid; omega
  have sz24 := hk24.size
  replace OS' : Hid (SOwn w24 w1.heap.size (.slice (some ⟨w1.heap.size, 0, none⟩) (a.length + 2) (a.length + 2)) (spd a.length ++ (mkd a).drop a.length)) := OS'.out.kp hk24 (fun g hg => by simp [Value.ownBlock] at hg; intro h; rcases h with h | h; omega; have := T23.out g h; omega)
  replace OB' : Hid (SOwn w24 w2.heap.size (.slice (some ⟨w2.heap.size, 0, none⟩) (b.length + 2) (b.length + 2)) (mkd b)) := OB'.out.kp hk24 (fun g hg => by simp [Value.ownBlock] at hg; intro h; rcases h with h | h; omega; have := T23.out g h; omega)
  replace O5' : Hid (SOwn w24 w4.heap.size (.slice a5 u.length c5) (u)) := O5'.out.kp hk24 (fun g hg h => by have := p5.out g hg; rcases h with h | h; omega; have := T23.out g h; omega)
  replace O6' : Hid (SOwn w24 w5.heap.size (.slice a6 u.length c6) (u)) := O6'.out.kp hk24 (fun g hg h => by have := p6.out g hg; rcases h with h | h; omega; have := T23.out g h; omega)
  replace O7' : Hid (SOwn w24 w6.heap.size (.slice a7 u.length c7) (u)) := O7'.out.kp hk24 (fun g hg h => by have := p7.out g hg; rcases h with h | h; omega; have := T23.out g h; omega)
  replace OO' : Hid (SOwn w24 w15.heap.size (.slice a16 a.length c16) (spd a.length)) := OO'.out.kp hk24 (fun g hg h => by have := pO.out g hg; rcases h with h | h; omega; have := T23.out g h; omega)
  replace O18' : Hid (SOwn w24 w17.heap.size (.slice a18 u2.length c18) (u2)) := O18'.out.kp hk24 (fun g hg h => by have := p18.out g hg; rcases h with h | h; omega; have := T23.out g h; omega)
  have HW24 : Hid (Below w.heap.size w w24) := HW23.out.trans (hk24.below (fun g h => by rcases h with h | h; omega; have := T23.out g h; omega) HW23.out.size)
  clear hbk24 hk24 hl24 fr24 HB23 HW23
  obtain ⟨Lb, capb, hbks, hlvb⟩ := HB24.out.bks (by simp)
  have hTL := T24.out Lb hlvb
  clear hlvb
  have HIn : Hid (∀ g, inC [(Value.slice a5 u.length c5, u), (Value.slice a6 u.length c6, u), (Value.slice a7 u.length c7, u), (Value.slice a18 u2.length c18, u2)] g → w4.heap.size ≤ g ∧ (g < w7.heap.size ∨ w17.heap.size ≤ g)) := fun g ⟨j, y, hy, hg⟩ => by
    have hm := List.mem_of_getElem? hy
    simp only [List.mem_cons, List.not_mem_nil, or_false] at hm
    rcases hm with rfl | rfl | rfl | rfl
    · have := p5.out g hg; omega
    · have := p6.out g hg; omega
    · have := p7.out g hg; omega
    · have := p18.out g hg; omega
  have how := owned_some w24 w.heap.size w19.heap.size Lb capb _ _ hbks (by simp) (by simp)
  clear hbks HB24
  go_wp2_with fail
  refine how.mono ?_
  rintro e w25 ⟨rfl, hk25⟩
  replace OS' : Hid (SOwn w25 w1.heap.size (.slice (some ⟨w1.heap.size, 0, none⟩) (a.length + 2) (a.length + 2)) (spd a.length ++ (mkd a).drop a.length)) := OS'.out.kp hk25 (fun g hg h => by simp [Value.ownBlock] at hg; rcases h with h | h; omega; have := HIn.out g h; omega)
  replace OB' : Hid (SOwn w25 w2.heap.size (.slice (some ⟨w2.heap.size, 0, none⟩) (b.length + 2) (b.length + 2)) (mkd b)) := OB'.out.kp hk25 (fun g hg h => by simp [Value.ownBlock] at hg; rcases h with h | h; omega; have := HIn.out g h; omega)
  replace OO' : Hid (SOwn w25 w15.heap.size (.slice a16 a.length c16) (spd a.length)) := OO'.out.kp hk25 (fun g hg h => by have := pO.out g hg; rcases h with h | h; omega; have := HIn.out g h; omega)
  have HW25 : Hid (Below w.heap.size w w25) := HW24.out.trans (hk25.below (fun g h => by rcases h with h | h; omega; have := HIn.out g h; omega) HW24.out.size)
  clear hk25 how HIn O5' O6' O7' O18' p5 p6 p7 p18
  have hsm26 := same_ls (HXs.out w25 OS'.out) (OO'.out.ls (by rw [spd_len]; omega))
  rw [show eqB (spd a.length) (spd a.length) = true from decide_eq_true rfl] at hsm26
  go_wp2_with fail
  refine hsm26.mono ?_
  rintro e w26 ⟨rfl, hb26⟩
  have HW26 : Hid (Below w.heap.size w w26) := HW25.out.trans (hb26.mono HW25.out.size)
  have hsm27 := same_ls (HY.out w26 (OB'.out.below hb26)) (HB.out w26 HW26.out)
  rw [show eqB b b = true from decide_eq_true rfl] at hsm27
  clear hb26 hsm26
  go_wp2_with fail
  refine hsm27.mono ?_
  rintro e w27 ⟨rfl, hb27⟩
  have HW27 : Hid (Below w.heap.size w w27) := HW26.out.trans (hb27.mono HW26.out.size)
  clear hb27 hsm27
  go_wp2
  go_ret
  exact ⟨by simp, by have := HW27.out; rw [← HE0.out] at this; exact this⟩

theorem unites_any {va vb : Value} {a b : List Sp} {w : World} (ha : Ls w va a) (hb : Ls w vb b) (ma : a.length ≤ 1048576) (_ : ∀ s ∈ a, (-9223372036854775808 ≤ s.1 ∧ s.1 ≤ 9223372036854775807) ∧ (-9223372036854775808 ≤ s.2 ∧ s.2 ≤ 9223372036854775807)) (mb : b.length ≤ 1048576) (_ : ∀ s ∈ b, (-9223372036854775808 ≤ s.1 ∧ s.1 ≤ 9223372036854775807) ∧ (-9223372036854775808 ≤ s.2 ∧ s.2 ≤ 9223372036854775807)) :
    Calls Try.prog 4 #[va, vb] w fun e w' => e = .returned (.bool true) ∧ Below w.heap.size w w' := by
  obtain ⟨a', c', rfl, _⟩ := ha.shape
  obtain ⟨b', d', rfl, _⟩ := hb.shape
  exact unites_in a' b' c' d' a b w ha hb ma mb

end Go.Proofs.Ytblkpmelneignac
