import Derived.Test.YtppkdkbdcdjikacGat
import Derived.Test.YtppkdkbdcdjikacRgt2
namespace Go.Proofs.Ytppkdkbdcdjikac
open Go.RowKit

theorem refright_ls {v : Value} {l : List Sp} {w : World} (h : Ls w v l) : Calls Try.prog 24 #[v] w fun e w' => e = .returned (.bool (setB l)) ∧ Below w.heap.size w w' := by
  obtain ⟨a, c, rfl, hs, _, _⟩ := h.shape; exact refright_any a c l w hs h.small

theorem UR.sets {l m u : List Sp} {er : Int} (h : UR l m u er) (hl : IsSet l) (hm : IsSet m) : ∃ U, Uni l m U ∧ BR U u er := by
  rcases h with ⟨h, _⟩ | ⟨_, _, U, h1, h2⟩
  · exact absurd ⟨hl, hm⟩ h
  · exact ⟨U, h1, h2⟩
theorem UR.two {l m u : List Sp} {er : Int} (h : UR l m u er) (hl : IsSet l) (hm : IsSet m) : er = 0 ∨ er = 3 := by
  obtain ⟨_, _, ⟨_, h, _⟩ | ⟨_, h, _⟩⟩ := h.sets hl hm <;> omega

theorem groups_same {a b c ab bc x y : List Sp} {g h : Int} (hab : Uni a b ab) (hbc : Uni b c bc) (sa : IsSet a) (sc : IsSet c) (sab : IsSet ab) (sbc : IsSet bc) (hx : UR ab c x g) (hy : UR a bc y h) : x = y ∧ g = h := by
  obtain ⟨U, u1, u2⟩ := hx.sets sab sc
  obtain ⟨V, v1, v2⟩ := hy.sets sa sbc
  have : U = V := u1.rt.uniq v1.rt (fun z => by rw [u1.all, v1.all, hab.all, hbc.all, Bool.or_assoc])
  subst this
  exact u2.uniq v2
theorem self_same {x s : List Sp} {k : Int} (hx : IsSet x) (h : UR x x s k) : s = x ∧ k = 0 := by
  obtain ⟨U, u1, u2⟩ := h.sets hx hx
  have : U = x := u1.rt.uniq hx.2 (fun z => by rw [u1.all, Bool.or_self])
  subst this
  rcases u2 with ⟨_, h1, h2⟩ | ⟨h1, _⟩
  · exact ⟨h2, h1⟩
  · have := hx.1; omega
theorem groups_cover {a x : List Sp} {p : Sp} (sa : IsSet a) (sx : IsSet x) (h : ∀ z, has a z = true → has x z = true) (hp : p ∈ a) : cvB x p = true := by
  have hm := sa.2.mem p hp
  have hk : Asked p := ⟨by omega, by omega, by omega⟩
  have : gps x p = [] := cover_math sx.2 hk (fun z hz => h z (has_mem.mpr ⟨p, hp, inn_iff.mp hz⟩))
  unfold cvB
  rw [setB_iff.mpr sx, askB_iff.mpr hk, this]; rfl
theorem groups_size {a b c ab x : List Sp} (sa : IsSet a) (sb : IsSet b) (sc : IsSet c) (hab : Uni a b ab) (hx : Uni ab c x) : siz x - siz a - siz b ≤ siz c := by
  have h1 := siz_le sa.2 sb.2 hab.rt (fun z hz => by rw [hab.all] at hz; simpa using hz)
  have h2 := siz_le hab.rt sc.2 hx.rt (fun z hz => by rw [hx.all] at hz; simpa using hz)
  omega

set_option maxHeartbeats 8000000 in
set_option maxRecDepth 100000 in
theorem groups_any {va vb vc : Value} {a b c : List Sp} {w : World} (ha : Ls w va a) (hb : Ls w vb b) (hc : Ls w vc c) :
    Calls Try.prog 8 #[va, vb, vc] w fun e w' => e = .returned (.bool true) ∧ Below w.heap.size w w' := by
  have HA : Hid (∀ W, Below w.heap.size w W → Ls W va a) := fun W hW => ha.below hW
  have HB : Hid (∀ W, Below w.heap.size w W → Ls W vb b) := fun W hW => hb.below hW
  have HC : Hid (∀ W, Below w.heap.size w W → Ls W vc c) := fun W hW => hc.below hW
  obtain ⟨aa, ca, rfl, hsa, _⟩ := ha.shape
  obtain ⟨ab', cb, rfl, _⟩ := hb.shape
  obtain ⟨ac, cc, rfl, _⟩ := hc.shape
  have HSA : Hid (Spa w aa a) := hsa
  have HQa : Hid (setB a = true ↔ IsSet a) := setB_iff
  have HQb : Hid (setB b = true ↔ IsSet b) := setB_iff
  have HQc : Hid (setB c = true ↔ IsSet c) := setB_iff
  have HRa : Hid (∀ W, Below w.heap.size w W → Calls Try.prog 24 #[.slice aa a.length ca] W fun e w' => e = .returned (.bool (setB a)) ∧ Below W.heap.size W w') := fun W hW => refright_ls (HA.out W hW)
  have HRb : Hid (∀ W, Below w.heap.size w W → Calls Try.prog 24 #[.slice ab' b.length cb] W fun e w' => e = .returned (.bool (setB b)) ∧ Below W.heap.size W w') := fun W hW => refright_ls (HB.out W hW)
  have HRc : Hid (∀ W, Below w.heap.size w W → Calls Try.prog 24 #[.slice ac c.length cc] W fun e w' => e = .returned (.bool (setB c)) ∧ Below W.heap.size W w') := fun W hW => refright_ls (HC.out W hW)
  have hal := ha.small
  clear ha hb hc hsa
  generalize setB a = Va at *
  generalize setB b = Vb at *
  generalize setB c = Vc at *
  go_enter Try.func8, Try.ntmps8
  go_wp2_with fail
  refine (awake_any _).mono ?_
  rintro e w1 ⟨rfl, hb1⟩
  have HB1 : Hid (Below w.heap.size w w1) := hb1
  clear hb1
  go_wp2_with fail
  refine (HRa.out w1 HB1.out).mono ?_
  rintro e w2 ⟨rfl, hb2⟩
  have HB2 : Hid (Below w.heap.size w w2) := HB1.out.trans (hb2.mono HB1.out.size)
  clear hb2 HB1 HRa
  go_wp2_with fail
  refine (HRb.out w2 HB2.out).mono ?_
  rintro e w3 ⟨rfl, hb3⟩
  have HB3 : Hid (Below w.heap.size w w3) := HB2.out.trans (hb3.mono HB2.out.size)
  clear hb3 HB2 HRb
  go_wp2_with fail
  refine (HRc.out w3 HB3.out).mono ?_
  rintro e w4 ⟨rfl, hb4⟩
  have HB4 : Hid (Below w.heap.size w w4) := HB3.out.trans (hb4.mono HB3.out.size)
  clear hb4 HB3 HRc
  by_cases hall : Va = true ∧ Vb = true ∧ Vc = true
  · obtain ⟨rfl, rfl, rfl⟩ := hall
    have SA : Hid (IsSet a) := HQa.out.mp rfl
    have SB : Hid (IsSet b) := HQb.out.mp rfl
    have SC : Hid (IsSet c) := HQc.out.mp rfl
    clear HQa HQb HQc
    go_wp2_with fail
    refine (union_any (HA.out w4 HB4.out) (HB.out w4 HB4.out)).mono ?_
    rintro e w5 ⟨v5, ab, e5, rfl, hs5, hr5, hb5⟩
    obtain ⟨a5, c5, rfl⟩ := hs5.shape
    have HB5 : Hid (Below w.heap.size w w5) := HB4.out.trans (hb5.mono HB4.out.size)
    have HS5 : Hid (SOwn w5 w.heap.size (.slice a5 ab.length c5) ab) := hs5.base HB4.out.size
    have HR5 : Hid (UR a b ab e5) := hr5
    have t5 := hr5.two SA.out SB.out
    clear hs5 hr5 hb5 HB4
    go_wp2_with fail
    refine (union_any (HB.out w5 HB5.out) (HC.out w5 HB5.out)).mono ?_
    rintro e w6 ⟨v6, bc, e6, rfl, hs6, hr6, hb6⟩
    obtain ⟨a6, c6, rfl⟩ := hs6.shape
    have HB6 : Hid (Below w.heap.size w w6) := HB5.out.trans (hb6.mono HB5.out.size)
    have HS6 : Hid (SOwn w6 w.heap.size (.slice a6 bc.length c6) bc) := hs6.base HB5.out.size
    have HS5' : Hid (SOwn w6 w.heap.size (.slice a5 ab.length c5) ab) := HS5.out.below hb6
    have HR6 : Hid (UR b c bc e6) := hr6
    have t6 := hr6.two SB.out SC.out
    clear hs6 hr6 hb6 HB5 HS5
    by_cases h5 : e5 = 0
    · by_cases h6 : e6 = 0
      · subst h5
        subst h6
        obtain ⟨_, _, U5, SAB⟩ := HR5.out.ok rfl
        obtain ⟨_, _, U6, SBC⟩ := HR6.out.ok rfl
        have HU5 : Hid (Uni a b ab) := U5
        have HU6 : Hid (Uni b c bc) := U6
        have HAB : Hid (IsSet ab) := SAB
        have HBC : Hid (IsSet bc) := SBC
        have l5 := SAB.1
        have l6 := SBC.1
        clear t5 t6 HR5 HR6 U5 U6 SAB SBC
        go_wp2_with fail
        refine (union_any (HS5'.out.ls (by omega)) (HC.out w6 HB6.out)).mono ?_
        rintro e w7 ⟨v7, x, e7, rfl, hs7, hr7, hb7⟩
        obtain ⟨a7, c7, rfl⟩ := hs7.shape
        have HB7 : Hid (Below w.heap.size w w7) := HB6.out.trans (hb7.mono HB6.out.size)
        have HS7 : Hid (SOwn w7 w.heap.size (.slice a7 x.length c7) x) := hs7.base HB6.out.size
        have HS6' : Hid (SOwn w7 w.heap.size (.slice a6 bc.length c6) bc) := HS6.out.below hb7
        have HR7 : Hid (UR ab c x e7) := hr7
        have t7 := hr7.two HAB.out SC.out
        have l7 := hr7.len
        clear hs7 hr7 hb7 HB6 HS6 HS5'
        go_wp2_with fail
        refine (union_any (HA.out w7 HB7.out) (HS6'.out.ls (by omega))).mono ?_
        rintro e w8 ⟨v8, y, e8, rfl, hs8, hr8, hb8⟩
        obtain ⟨rfl, rfl⟩ := groups_same HU5.out HU6.out SA.out SC.out HAB.out HBC.out HR7.out hr8
        obtain ⟨a8, c8, rfl⟩ := hs8.shape
        have HB8 : Hid (Below w.heap.size w w8) := HB7.out.trans (hb8.mono HB7.out.size)
        have HS8 : Hid (SOwn w8 w.heap.size (.slice a8 x.length c8) x) := hs8.base HB7.out.size
        have HS7' : Hid (SOwn w8 w.heap.size (.slice a7 x.length c7) x) := HS7.out.below hb8
        clear hs8 hr8 hb8 HB7 HS7 HS6'
        go_wp2_with fail
        refine (union_any (HS7'.out.ls (by omega)) (HS7'.out.ls (by omega))).mono ?_
        rintro e w9 ⟨v9, sf, e9, rfl, hs9, hr9, hb9⟩
        obtain ⟨a9, c9, rfl⟩ := hs9.shape
        have HB9 : Hid (Below w.heap.size w w9) := HB8.out.trans (hb9.mono HB8.out.size)
        have HS9 : Hid (SOwn w9 w.heap.size (.slice a9 sf.length c9) sf) := hs9.base HB8.out.size
        have HS8' : Hid (SOwn w9 w.heap.size (.slice a8 x.length c8) x) := HS8.out.below hb9
        have HS7'' : Hid (SOwn w9 w.heap.size (.slice a7 x.length c7) x) := HS7'.out.below hb9
        have HR9 : Hid (UR x x sf e9) := hr9
        have l9 := hr9.len
        clear hs9 hr9 hb9 HB8 HS8 HS7'
        have hsm := same_ls (HS7''.out.ls (by omega)) (HS8'.out.ls (by omega))
        rw [show eqB x x = true from decide_eq_true rfl] at hsm
        go_wp2_with fail
        refine hsm.mono ?_
        rintro e w10 ⟨rfl, hb10⟩
        have HB10 : Hid (Below w.heap.size w w10) := HB9.out.trans (hb10.mono HB9.out.size)
        have HS9' : Hid (SOwn w10 w.heap.size (.slice a9 sf.length c9) sf) := HS9.out.below hb10
        have HSx : Hid (SOwn w10 w.heap.size (.slice a7 x.length c7) x) := HS7''.out.below hb10
        clear hsm hb10 HB9 HS9 HS8' HS7''
        by_cases h7 : e7 = 0
        · subst h7
          obtain ⟨_, _, UX, SX⟩ := HR7.out.ok rfl
          obtain ⟨rfl, rfl⟩ := self_same SX HR9.out
          have HUX : Hid (Uni ab c sf) := UX
          have HX : Hid (IsSet sf) := SX
          have hsz1 := groups_size SA.out SB.out SC.out HU5.out UX
          have q1 := siz_pos SX.2
          have q2 := siz_most SX.2 (by omega)
          have q3 := siz_pos SA.out.2
          have q4 := siz_most SA.out.2 (by omega)
          have q5 := siz_pos SB.out.2
          have q6 := siz_most SB.out.2 (by omega)
          have q7 := siz_pos SC.out.2
          have q8 := siz_most SC.out.2 (by omega)
          have HCV : Hid (∀ p ∈ a, cvB sf p = true) := fun p hp => groups_cover SA.out SX (fun z hz => by rw [UX.all, HU5.out.all, hz]; rfl) hp
          have hsm := same_ls (HS9'.out.ls (by omega)) (HSx.out.ls (by omega))
          rw [show eqB sf sf = true from decide_eq_true rfl] at hsm
          clear t7 HR7 HR9 UX SX HUX HU5 HU6 HAB HBC
          go_wp2_with fail
          refine hsm.mono ?_
          rintro e w11 ⟨rfl, hb11⟩
          have HB11 : Hid (Below w.heap.size w w11) := HB10.out.trans (hb11.mono HB10.out.size)
          have HSx' : Hid (SOwn w11 w.heap.size (.slice a7 sf.length c7) sf) := HSx.out.below hb11
          clear hsm hb11 HB10 HS9' HSx
          go_wp2_with fail
          go_loopw [23] (fun i wr => ∃ k : Nat, k ≤ a.length ∧ i = .int .i64 k ∧ Below w.heap.size w wr ∧ SOwn wr w.heap.size (.slice a7 sf.length c7) sf) (fun i _ => a.length - (intOf i).toNat)
          case atStart => exact ⟨0, by omega, rfl, HB11.out, HSx'.out⟩
          case round =>
            obtain ⟨k, hk, rfl, hbe, hso⟩ := hrel
            have HBe : Hid (Below w.heap.size w wr) := hbe
            have HSo : Hid (SOwn wr w.heap.size (.slice a7 sf.length c7) sf) := hso
            clear hbe hso HB11 HSx'
            by_cases hlt : k < a.length
            · have hlt' : (k : Int) < (a.length : Int) := by omega
              obtain ⟨p, hp⟩ := get_some a k hlt
              obtain ⟨g, off, rfl, k1, k2⟩ := (HSA.out.below HBe.out).at hp
              have hcv := HCV.out p (List.mem_of_getElem? hp)
              obtain ⟨p1, p2⟩ := p
              simp only at k1 k2
              have hcov := covers_any p1 p2 (HSo.out.ls (by omega))
              rw [hcv] at hcov
              clear hp hcv
              go_wp2_with fail
              refine hcov.mono ?_
              rintro e w12 ⟨rfl, hb12⟩
              have HB12 : Hid (Below w.heap.size w w12) := HBe.out.trans (hb12.mono HBe.out.size)
              have HS12 : Hid (SOwn w12 w.heap.size (.slice a7 sf.length c7) sf) := HSo.out.below hb12
              clear hcov hb12 HBe HSo k1 k2
              go_wp2
              go_roundw
              case rel => exact ⟨k + 1, by omega, by go_num, HB12.out, HS12.out⟩
              case measure => simp [intOf]; omega
            · have hkn : k = a.length := by omega
              subst hkn
              have hz1 := size_ls (HSo.out.ls (by omega))
              rw [szB_set HX.out] at hz1
              have HZa : Hid (∀ W, Below w.heap.size w W → Calls Try.prog 28 #[.slice aa a.length ca] W fun e w' => e = .returned (.int .i64 (siz a)) ∧ Below W.heap.size W w') := fun W hW => by
                have := size_ls (HA.out W hW); rw [szB_set SA.out] at this; exact this
              have HZb : Hid (∀ W, Below w.heap.size w W → Calls Try.prog 28 #[.slice ab' b.length cb] W fun e w' => e = .returned (.int .i64 (siz b)) ∧ Below W.heap.size W w') := fun W hW => by
                have := size_ls (HB.out W hW); rw [szB_set SB.out] at this; exact this
              have HZc : Hid (∀ W, Below w.heap.size w W → Calls Try.prog 28 #[.slice ac c.length cc] W fun e w' => e = .returned (.int .i64 (siz c)) ∧ Below W.heap.size W w') := fun W hW => by
                have := size_ls (HC.out W hW); rw [szB_set SC.out] at this; exact this
              generalize siz sf = nx at *
              generalize siz a = na at *
              generalize siz b = nb at *
              generalize siz c = nc at *
              go_wp2_with fail
              refine hz1.mono ?_
              rintro e w12 ⟨rfl, hb12⟩
              have HB12 : Hid (Below w.heap.size w w12) := HBe.out.trans (hb12.mono HBe.out.size)
              clear hz1 hb12 HBe HSo
              go_wp2_with fail
              refine (HZa.out w12 HB12.out).mono ?_
              rintro e w13 ⟨rfl, hb13⟩
              have HB13 : Hid (Below w.heap.size w w13) := HB12.out.trans (hb13.mono HB12.out.size)
              clear hb13 HB12 HZa
              go_wp2_with fail
              refine (HZb.out w13 HB13.out).mono ?_
              rintro e w14 ⟨rfl, hb14⟩
              have HB14 : Hid (Below w.heap.size w w14) := HB13.out.trans (hb14.mono HB13.out.size)
              clear hb14 HB13 HZb
              go_wp2_with fail
              refine (HZc.out w14 HB14.out).mono ?_
              rintro e w15 ⟨rfl, hb15⟩
              have HB15 : Hid (Below w.heap.size w w15) := HB14.out.trans (hb15.mono HB14.out.size)
              clear hb15 HB14 HZc
              go_wp2
              go_ret
              exact ⟨by simp, HB15.out⟩
        · have h7' : e7 = 3 := by omega
          subst h7'
          go_wp2
          go_ret
          exact ⟨rfl, HB10.out⟩
      · have h6' : e6 = 3 := by omega
        subst h5
        subst h6'
        go_wp2
        go_ret
        exact ⟨rfl, HB6.out⟩
    · have h5' : e5 = 3 := by omega
      subst h5'
      rcases t6 with rfl | rfl
      · go_wp2
        go_ret
        exact ⟨rfl, HB6.out⟩
      · go_wp2
        go_ret
        exact ⟨rfl, HB6.out⟩
  · clear HQa HQb HQc
    cases Va with
    | false =>
      go_wp2
      go_ret
      exact ⟨rfl, HB4.out⟩
    | true =>
      cases Vb with
      | false =>
        go_wp2
        go_ret
        exact ⟨rfl, HB4.out⟩
      | true =>
        cases Vc with
        | false =>
          go_wp2
          go_ret
          exact ⟨rfl, HB4.out⟩
        | true => exact absurd ⟨rfl, rfl, rfl⟩ hall

end Go.Proofs.Ytppkdkbdcdjikac
