import Derived.Test.YtdfdaambfihjaaaDoorLnSa
namespace Go.Proofs.YtdfdaambfihjaaaDoor.L
open Go.RowKit
set_option linter.unusedVariables false
set_option linter.unusedSimpArgs false

set_option maxHeartbeats 2000000 in
theorem rankL_any (t : Int) (w : World) : Calls Tryd.prog 52 #[.int .i64 t] w fun e w' => e = .returned (.int .i64 (kd t)) ∧ w = w' := by
  obtain ⟨q, hq⟩ : ∃ q, kd t = q := ⟨_, rfl⟩
  have HQ : Hid (kd t = q) := hq
  rw [hq]
  clear hq
  by_cases h9 : t = 9
  · subst h9
    go_enter Tryd.func52, Tryd.ntmps52
    go_wp2
    go_ret
    exact ⟨by rw [← HQ.out]; rfl, rfl⟩
  by_cases h13 : t = 13
  · subst h13
    go_enter Tryd.func52, Tryd.ntmps52
    go_wp2
    go_ret
    exact ⟨by rw [← HQ.out]; rfl, rfl⟩
  by_cases h15 : t = 15
  · subst h15
    go_enter Tryd.func52, Tryd.ntmps52
    go_wp2
    go_ret
    exact ⟨by rw [← HQ.out]; rfl, rfl⟩
  by_cases h8 : t = 8
  · subst h8
    go_enter Tryd.func52, Tryd.ntmps52
    go_wp2
    go_ret
    exact ⟨by rw [← HQ.out]; rfl, rfl⟩
  by_cases h12 : t = 12
  · subst h12
    go_enter Tryd.func52, Tryd.ntmps52
    go_wp2
    go_ret
    exact ⟨by rw [← HQ.out]; rfl, rfl⟩
  by_cases h14 : t = 14
  · subst h14
    go_enter Tryd.func52, Tryd.ntmps52
    go_wp2
    go_ret
    exact ⟨by rw [← HQ.out]; rfl, rfl⟩
  have e9 : (t == 9) = false := by simpa using h9
  have e13 : (t == 13) = false := by simpa using h13
  have e15 : (t == 15) = false := by simpa using h15
  have e8 : (t == 8) = false := by simpa using h8
  have e12 : (t == 12) = false := by simpa using h12
  have e14 : (t == 14) = false := by simpa using h14
  have HK : Hid (q = 2) := by show q = 2; rw [← HQ.out]; unfold kd; simp [h9, h13, h15, h8, h12, h14]
  clear h9 h13 h15 h8 h12 h14 HQ
  go_enter Tryd.func52, Tryd.ntmps52
  go_wp2
  go_ret
  exact ⟨by rw [HK.out]; rfl, rfl⟩


/-- What a session drops, by the law. -/
def gon (S1 S2 : Int) (dr all : Bool) (k : Nat) (s : Sg) : Bool := dr && (decide (s.org = S1) && decide (s.num = S2)) && (decide (s.typ ≤ 3) || (all && decide (0 < k)))
def kk (S1 S2 : Int) (dr all : Bool) (k : Nat) (y : Sv) : Bool := decide (kdn y.s.typ = k) && !gon S1 S2 dr all k y.s
def Ex (S1 S2 : Int) (dr all : Bool) (I : List Sv) (k : Nat) : List Sg := (I.filter (kk S1 S2 dr all k)).map Sv.s
def Ep (S1 S2 : Int) (dr all : Bool) (I : List Sv) : Nat → List Sg
  | 0 => []
  | k + 1 => Ep S1 S2 dr all I k ++ Ex S1 S2 dr all I k
def Aq (S1 S2 : Int) (dr all : Bool) (I : List Sv) (k i : Nat) : Nat := (Ep S1 S2 dr all I k).length + ((I.take i).filter (kk S1 S2 dr all k)).length
theorem Aq_end (S1 S2 : Int) (dr all : Bool) (I : List Sv) (k : Nat) : Aq S1 S2 dr all I k I.length = Aq S1 S2 dr all I (k + 1) 0 := by
  simp [Aq, Ep, Ex]
theorem Aq_no {S1 S2 : Int} {dr all : Bool} {I : List Sv} {k i : Nat} {y : Sv} (hy : I[i]? = some y) (h : kk S1 S2 dr all k y = false) : Aq S1 S2 dr all I k (i + 1) = Aq S1 S2 dr all I k i := by
  unfold Aq
  rw [List.take_add_one, hy, List.filter_append]
  simp [h]
theorem Aq_yes {S1 S2 : Int} {dr all : Bool} {I : List Sv} {k i : Nat} {y : Sv} (hy : I[i]? = some y) (h : kk S1 S2 dr all k y = true) : Aq S1 S2 dr all I k (i + 1) = Aq S1 S2 dr all I k i + 1 := by
  unfold Aq
  rw [List.take_add_one, hy, List.filter_append]
  simp [h]
  omega
theorem fil_at {α : Type} (p : α → Bool) : ∀ (l : List α) (i : Nat) (y : α), l[i]? = some y → p y = true → (l.filter p)[((l.take i).filter p).length]? = some y
  | [], i, y, h, hp => by simp at h
  | a :: r, 0, y, h, hp => by
    simp at h
    subst h
    simp [hp]
  | a :: r, i + 1, y, h, hp => by
    simp at h
    have := fil_at p r i y h hp
    rw [List.take_succ_cons]
    by_cases e : p a = true
    · simp [e, this]
    · simp [e, this]
theorem Ep_at {S1 S2 : Int} {dr all : Bool} {I : List Sv} {k i : Nat} {y : Sv} (hk : k < 3) (hy : I[i]? = some y) (h : kk S1 S2 dr all k y = true) : (Ep S1 S2 dr all I 3)[Aq S1 S2 dr all I k i]? = some y.s := by
  have h1 : (Ex S1 S2 dr all I k)[((I.take i).filter (kk S1 S2 dr all k)).length]? = some y.s := by
    unfold Ex
    rw [List.getElem?_map, fil_at _ I i y hy h]
    rfl
  have h2 : (Ep S1 S2 dr all I (k + 1))[Aq S1 S2 dr all I k i]? = some y.s := by
    show (Ep S1 S2 dr all I k ++ Ex S1 S2 dr all I k)[Aq S1 S2 dr all I k i]? = _
    unfold Aq
    rw [List.getElem?_append_right (by omega), Nat.add_sub_cancel_left, h1]
  have mono : ∀ (m n : Nat) (u : Sg), (Ep S1 S2 dr all I m)[n]? = some u → (Ep S1 S2 dr all I (m + 1))[n]? = some u := fun m n u h => by
    show (Ep S1 S2 dr all I m ++ Ex S1 S2 dr all I m)[n]? = _
    rw [List.getElem?_append_left (List.getElem?_eq_some_iff.mp h).1]
    exact h
  have e : k = 0 ∨ k = 1 ∨ k = 2 := by omega
  rcases e with rfl | rfl | rfl
  · exact mono 2 _ _ (mono 1 _ _ h2)
  · exact mono 2 _ _ h2
  · exact h2

set_option maxRecDepth 100000 in
set_option maxHeartbeats 16000000 in
theorem inOrder_any (w : World) (va vb : Value) (X I : List Sv) (hX : Rw w va X) (hI : Rw w vb I) (S1 S2 : Int) (dr all : Bool) (he : X.map Sv.s = Ep S1 S2 dr all I 3) (aX : ∀ y ∈ X, SAt w y) (aI : ∀ y ∈ I, SAt w y) (n N : Nat) (hn : I.length = n) (hN : X.length = N) (hnb : n ≤ 68719476736) (hNb : N ≤ 68719476736) :
    Calls Tryd.prog 23 #[va, vb, .agg #[.int .i64 S1, .int .i64 S2], .bool dr, .bool all] w fun e w' => e = .returned (.bool true) ∧ Below w.heap.size w w' := by
  obtain ⟨aa, ac, rfl, hX⟩ := hX
  obtain ⟨ba, bc, rfl, hI⟩ := hI
  obtain ⟨W, hW⟩ : ∃ W, w.alloc (.cells #[.int .i64 S1, .int .i64 S2] 32) = W := ⟨_, rfl⟩
  have HW : Hid (w.alloc (.cells #[.int .i64 S1, .int .i64 S2] 32) = W) := hW
  have bW : Below w.heap.size w W := by rw [← hW]; exact (Below.refl _ _).alloc (Nat.le_refl _) _
  have hnw : W.heap[w.heap.size]? = some (.cells #[.int .i64 S1, .int .i64 S2] 32 (0, 0)) := by rw [← hW]; exact heap_alloc_new' _ _
  obtain ⟨B, hB⟩ : ∃ B, w.heap.size = B := ⟨_, rfl⟩
  have HS : Hid (∀ V : World, Below W.heap.size W V → V.cell? ⟨B, 0, none⟩ = some (.int .i64 S1) ∧ V.cell? ⟨B, 1, none⟩ = some (.int .i64 S2)) := fun V hV => by
    have e0 := (hV.block _ (Array.getElem?_eq_some_iff.1 hnw).1).trans hnw
    rw [hB] at e0
    exact ⟨(cell_of_row _ _ _ _ _ _ e0).trans rfl, (cell_of_row _ _ _ _ _ _ e0).trans rfl⟩
  have HA : Hid ((∀ y ∈ X, SAt w y) ∧ (∀ y ∈ I, SAt w y) ∧ X.map Sv.s = Ep S1 S2 dr all I 3 ∧ I.length = n ∧ X.length = N ∧ (X = [] ∨ ∃ g off, aa = some ⟨g, off, none⟩ ∧ Sd w g off X) ∧ (I = [] ∨ ∃ g off, ba = some ⟨g, off, none⟩ ∧ Sd w g off I)) := ⟨aX, aI, he, hn, hN, hX, hI⟩
  have HbW : Hid (Below w.heap.size w W) := bW
  have hAl : Aq S1 S2 dr all I 3 0 = N := by
    have := congrArg List.length he
    simp at this
    simp [Aq]
    omega
  have HAl : Hid (Aq S1 S2 dr all I 3 0 = N) := hAl
  rw [hn, hN]
  clear hX hI he aX aI hW bW hnw hAl
  go_enter Tryd.func23, Tryd.ntmps23
  go_upto_region 1 with fail
  rw [HW.out]
  go_wp2_with fail
  go_loopw [11, 12] (fun s11 s12 wr => ∃ k a : Nat, k ≤ 3 ∧ s12 = .int .i64 k ∧ s11 = .int .i64 a ∧ Hid (Aq S1 S2 dr all I k 0 = a ∧ Below W.heap.size W wr)) (fun _ s12 _ => 3 - (intOf s12).toNat)
  case atStart => exact ⟨0, 0, by omega, rfl, rfl, by simp [Aq, Ep], Below.refl _ _⟩
  case round =>
    obtain ⟨k, a, hk, rfl, rfl, HK⟩ := hrel
    by_cases hlt : k < 3
    · have hlt' : (k : Int) < 3 := by omega
      obtain ⟨wo, hwo⟩ : ∃ x, x = wr := ⟨_, rfl⟩
      subst hwo
      go_wp2_with fail
      have HK0 : Hid (Aq S1 S2 dr all I k 0 = a ∧ Below W.heap.size W wo) := HK
      go_loopw [11, 13, 14, 15] (fun s11 s13 _ _ wx => ∃ i a : Nat, i ≤ n ∧ s13 = .int .i64 i ∧ s11 = .int .i64 a ∧ Hid (Aq S1 S2 dr all I k i = a ∧ Below W.heap.size W wx)) (fun _ s13 _ _ _ => n - (intOf s13).toNat)
      case atStart => exact ⟨0, a, by omega, rfl, rfl, HK0⟩
      case round =>
        clear HK HK0
        obtain ⟨i, a, hi, rfl, rfl, HK⟩ := hrel
        by_cases hil : i < n
        · have hil' : (i : Int) < (n : Int) := by omega
          have h0i : 0 ≤ (i : Int) := by omega
          have hwi : IntKind.i64.wrap ((i : Int) + 1) = (i : Int) + 1 := by rw [IntKind.wrap_i64]; omega
          obtain ⟨y, hy⟩ := get_one I i (by rw [HA.out.2.2.2.1]; exact hil)
          have HY : Hid (I[i]? = some y) := hy
          obtain ⟨gI, offI, rfl, sdI⟩ : ∃ g off, ba = some ⟨g, off, none⟩ ∧ Sd w g off I := by
            rcases HA.out.2.2.2.2.2.2 with e | e
            · rw [e] at hy; simp at hy
            · exact e
          have HI : Hid (∀ V : World, Below W.heap.size W V → V.cell? ⟨gI, offI + i * 14, none⟩ = some (.int .i64 y.s.typ) ∧ V.cell? ⟨gI, offI + i * 14 + 1, none⟩ = some (.int .i64 y.s.org) ∧ V.cell? ⟨gI, offI + i * 14 + 2, none⟩ = some (.int .i64 y.s.num) ∧ V.cell? ⟨gI, offI + i * 14 + 3, none⟩ = some y.hv ∧ V.cell? ⟨gI, offI + i * 14 + 4, none⟩ = some y.tv ∧ V.cell? ⟨gI, offI + i * 14 + 5, none⟩ = some (.int .i64 y.s.srv) ∧ V.cell? ⟨gI, offI + i * 14 + 6, none⟩ = some (.int .i64 y.s.off) ∧ V.cell? ⟨gI, offI + i * 14 + 7, none⟩ = some y.dv ∧ V.cell? ⟨gI, offI + i * 14 + 8, none⟩ = some (.int .i64 y.s.chk) ∧ V.cell? ⟨gI, offI + i * 14 + 9, none⟩ = some (.int .i64 y.s.rep) ∧ V.cell? ⟨gI, offI + i * 14 + 10, none⟩ = some (.int .i64 y.s.upp) ∧ V.cell? ⟨gI, offI + i * 14 + 11, none⟩ = some (.int .i64 y.s.low) ∧ V.cell? ⟨gI, offI + i * 14 + 12, none⟩ = some y.cv ∧ V.cell? ⟨gI, offI + i * 14 + 13, none⟩ = some (.int .i64 y.s.rsn)) := fun V hV => sd_cells (sdI.below (HbW.out.trans (hV.mono HbW.out.size))) hy
          have hrk := rankL_any y.s.typ wr
          rw [(kd_n y.s.typ).1] at hrk
          obtain ⟨kn, hkn⟩ : ∃ kn, kdn y.s.typ = kn := ⟨_, rfl⟩
          rw [hkn] at hrk
          have HKN : Hid (kdn y.s.typ = kn) := hkn
          obtain ⟨i0, i1, i2, _⟩ := HI.out wr HK.out.2
          obtain ⟨b0, b1⟩ := HS.out wr HK.out.2
          clear hy sdI hkn
          go_wp2_with fail
          refine hrk.mono ?_
          rintro e U ⟨rfl, rfl⟩
          obtain ⟨cb, hcb⟩ : ∃ cb, (!kk S1 S2 dr all k y) = cb := ⟨_, rfl⟩
          have HCb : Hid ((!kk S1 S2 dr all k y) = cb) := hcb
          go_upto_region 9 with fail
          go_cut [61] from 32 to 78 (fun c wx => c = .bool cb ∧ Hid (Below wr.heap.size wr wx))
          case first =>
            have HBd : Hid (Below wr.heap.size wr wr.drew) := ⟨rfl, rfl, rfl, Nat.le_refl _, fun _ _ => rfl⟩
            by_cases c1 : kn = k
            · have c1' : (kn : Int) = (k : Int) := by omega
              have hkk : cb = gon S1 S2 dr all k y.s := by rw [← hcb]; unfold kk; rw [HKN.out]; simp [c1]
              subst c1
              unfold gon at hkk
              cases dr with
              | false =>
                have hcf : cb = false := by simpa using hkk
                subst hcf
                clear hkk hcb
                go_quiet (fail)
                go_wp2_with fail
                go_meet
                exact ⟨rfl, below_drewN' (Below.refl _ _) _⟩
              | true =>
                by_cases e1 : y.s.org = S1
                · by_cases e2 : y.s.num = S2
                  · subst e1 e2
                    by_cases e3 : y.s.typ ≤ 3
                    · have hcf : cb = true := by simpa [e3] using hkk
                      subst hcf
                      clear hkk hcb
                      go_quiet (fail)
                      go_wp2_with fail
                      go_meet
                      exact ⟨rfl, below_drewN' (Below.refl _ _) _⟩
                    · have e3' : 3 < y.s.typ := by omega
                      cases all with
                      | false =>
                        have hcf : cb = false := by simpa [e3] using hkk
                        subst hcf
                        clear hkk hcb
                        go_quiet (fail)
                        go_wp2_with fail
                        go_meet
                        exact ⟨rfl, below_drewN' (Below.refl _ _) _⟩
                      | true =>
                        by_cases e4 : 0 < kn
                        · have e4' : (0 : Int) < (kn : Int) := by omega
                          have hcf : cb = true := by simpa [e3, e4] using hkk
                          subst hcf
                          clear hkk hcb
                          go_quiet (fail)
                          go_wp2_with fail
                          go_meet
                          exact ⟨rfl, below_drewN' (Below.refl _ _) _⟩
                        · obtain rfl : kn = 0 := by omega
                          have hcf : cb = false := by simpa [e3] using hkk
                          subst hcf
                          clear hkk hcb
                          go_quiet (fail)
                          go_wp2_with fail
                          go_meet
                          exact ⟨rfl, below_drewN' (Below.refl _ _) _⟩
                  · have e2' : (y.s.num == S2) = false := by simpa using e2
                    have hcf : cb = false := by simpa [e2] using hkk
                    subst hcf
                    clear hkk hcb
                    go_quiet (fail)
                    go_wp2_with fail
                    go_meet
                    exact ⟨rfl, below_drewN' (Below.refl _ _) _⟩
                · have e1' : (y.s.org == S1) = false := by simpa using e1
                  have hcf : cb = false := by simpa [e1] using hkk
                  subst hcf
                  clear hkk hcb
                  go_quiet (fail)
                  go_wp2_with fail
                  go_meet
                  exact ⟨rfl, below_drewN' (Below.refl _ _) _⟩
            · have hk3 : kn < 3 := by rw [← HKN.out]; exact (kd_n _).2
              have hkk : cb = true := by rw [← hcb]; unfold kk; rw [HKN.out]; simp [c1]
              subst hkk
              clear hcb
              rcases three hk3 with rfl | rfl | rfl <;> rcases three hlt with rfl | rfl | rfl <;> first
                | omega
                | (clear c1 hk3 HKN HCb HK HI HA HAl i0 i1 i2 b0 b1
                   go_quiet (fail)
                   go_wp2_with fail
                   go_meet
                   exact ⟨rfl, below_drewN' (Below.refl _ _) _⟩)
          case rest =>
          obtain ⟨rfl, HBc⟩ := hcut
          have HBW : Hid (Below W.heap.size W wc) := HK.out.2.trans (HBc.out.mono HK.out.2.size)
          clear hcb i0 i1 i2 b0 b1
          cases cb with
          | true =>
            have HE : Hid (Aq S1 S2 dr all I k (i + 1) = a ∧ Below W.heap.size W wc) := ⟨(Aq_no HY.out (by have := HCb.out; simpa using this)).trans HK.out.1, HBW.out⟩
            go_wp2
            go_roundw
            case rel => exact ⟨i + 1, a, by omega, by go_num, rfl, HE⟩
            case measure => simp [intOf]; omega
          | false =>
            have hkt : kk S1 S2 dr all k y = true := by have := HCb.out; simpa using this
            have hat := Ep_at hlt HY.out hkt
            rw [HK.out.1, ← HA.out.2.2.1] at hat
            rw [List.getElem?_map] at hat
            obtain ⟨x, hx, hxs⟩ : ∃ x, X[a]? = some x ∧ x.s = y.s := by
              cases hXa : X[a]? with
              | none => rw [hXa] at hat; cases hat
              | some x => rw [hXa] at hat; simp at hat; exact ⟨x, rfl, hat⟩
            have haN : a < N := by rw [← HA.out.2.2.2.2.1]; exact (List.getElem?_eq_some_iff.mp hx).1
            have haN' : (a : Int) < (N : Int) := by omega
            have h0a : 0 ≤ (a : Int) := by omega
            have hwa : IntKind.i64.wrap ((a : Int) + 1) = (a : Int) + 1 := by rw [IntKind.wrap_i64]; omega
            obtain ⟨gX, offX, rfl, sdX⟩ : ∃ g off, aa = some ⟨g, off, none⟩ ∧ Sd w g off X := by
              rcases HA.out.2.2.2.2.2.1 with e | e
              · rw [e] at hx; simp at hx
              · exact e
            have bwc : Below w.heap.size w wc := HbW.out.trans (HBW.out.mono HbW.out.size)
            have bwd : Below w.heap.size w wc.drew := ⟨bwc.os, bwc.tape, bwc.output, bwc.size, bwc.block⟩
            have hcall := same_ok ((HA.out.1 x (List.mem_of_getElem? hx)).below bwd) ((HA.out.2.1 y (List.mem_of_getElem? HY.out)).below bwd) hxs
            have HC : Hid (∀ V : World, Below W.heap.size W V → V.cell? ⟨gX, offX + a * 14, none⟩ = some (.int .i64 x.s.typ) ∧ V.cell? ⟨gX, offX + a * 14 + 1, none⟩ = some (.int .i64 x.s.org) ∧ V.cell? ⟨gX, offX + a * 14 + 2, none⟩ = some (.int .i64 x.s.num) ∧ V.cell? ⟨gX, offX + a * 14 + 3, none⟩ = some x.hv ∧ V.cell? ⟨gX, offX + a * 14 + 4, none⟩ = some x.tv ∧ V.cell? ⟨gX, offX + a * 14 + 5, none⟩ = some (.int .i64 x.s.srv) ∧ V.cell? ⟨gX, offX + a * 14 + 6, none⟩ = some (.int .i64 x.s.off) ∧ V.cell? ⟨gX, offX + a * 14 + 7, none⟩ = some x.dv ∧ V.cell? ⟨gX, offX + a * 14 + 8, none⟩ = some (.int .i64 x.s.chk) ∧ V.cell? ⟨gX, offX + a * 14 + 9, none⟩ = some (.int .i64 x.s.rep) ∧ V.cell? ⟨gX, offX + a * 14 + 10, none⟩ = some (.int .i64 x.s.upp) ∧ V.cell? ⟨gX, offX + a * 14 + 11, none⟩ = some (.int .i64 x.s.low) ∧ V.cell? ⟨gX, offX + a * 14 + 12, none⟩ = some x.cv ∧ V.cell? ⟨gX, offX + a * 14 + 13, none⟩ = some (.int .i64 x.s.rsn) ∧ V.cell? ⟨gI, offI + i * 14, none⟩ = some (.int .i64 y.s.typ) ∧ V.cell? ⟨gI, offI + i * 14 + 1, none⟩ = some (.int .i64 y.s.org) ∧ V.cell? ⟨gI, offI + i * 14 + 2, none⟩ = some (.int .i64 y.s.num) ∧ V.cell? ⟨gI, offI + i * 14 + 3, none⟩ = some y.hv ∧ V.cell? ⟨gI, offI + i * 14 + 4, none⟩ = some y.tv ∧ V.cell? ⟨gI, offI + i * 14 + 5, none⟩ = some (.int .i64 y.s.srv) ∧ V.cell? ⟨gI, offI + i * 14 + 6, none⟩ = some (.int .i64 y.s.off) ∧ V.cell? ⟨gI, offI + i * 14 + 7, none⟩ = some y.dv ∧ V.cell? ⟨gI, offI + i * 14 + 8, none⟩ = some (.int .i64 y.s.chk) ∧ V.cell? ⟨gI, offI + i * 14 + 9, none⟩ = some (.int .i64 y.s.rep) ∧ V.cell? ⟨gI, offI + i * 14 + 10, none⟩ = some (.int .i64 y.s.upp) ∧ V.cell? ⟨gI, offI + i * 14 + 11, none⟩ = some (.int .i64 y.s.low) ∧ V.cell? ⟨gI, offI + i * 14 + 12, none⟩ = some y.cv ∧ V.cell? ⟨gI, offI + i * 14 + 13, none⟩ = some (.int .i64 y.s.rsn)) := fun V hV => by
              have b := HbW.out.trans (hV.mono HbW.out.size)
              obtain ⟨p0, p1, p2, p3, p4, p5, p6, p7, p8, p9, p10, p11, p12, p13⟩ := sd_cells (sdX.below b) hx
              exact ⟨p0, p1, p2, p3, p4, p5, p6, p7, p8, p9, p10, p11, p12, p13, HI.out V hV⟩
            have HC0 := HC.out wc HBW.out
            have HE0 : Hid (∀ U, Below wc.heap.size wc U → Aq S1 S2 dr all I k (i + 1) = a + 1 ∧ Below W.heap.size W U) := fun U hU => ⟨by rw [Aq_yes HY.out hkt, HK.out.1], HBW.out.trans (hU.mono HBW.out.size)⟩
            clear hat hx hxs sdX bwc bwd hkt
            go_wp2_with fail
            go_region_held3 (fun V => V.cell? ⟨gX, offX + a * 14, none⟩ = some (.int .i64 x.s.typ) ∧ V.cell? ⟨gX, offX + a * 14 + 1, none⟩ = some (.int .i64 x.s.org) ∧ V.cell? ⟨gX, offX + a * 14 + 2, none⟩ = some (.int .i64 x.s.num) ∧ V.cell? ⟨gX, offX + a * 14 + 3, none⟩ = some x.hv ∧ V.cell? ⟨gX, offX + a * 14 + 4, none⟩ = some x.tv ∧ V.cell? ⟨gX, offX + a * 14 + 5, none⟩ = some (.int .i64 x.s.srv) ∧ V.cell? ⟨gX, offX + a * 14 + 6, none⟩ = some (.int .i64 x.s.off) ∧ V.cell? ⟨gX, offX + a * 14 + 7, none⟩ = some x.dv ∧ V.cell? ⟨gX, offX + a * 14 + 8, none⟩ = some (.int .i64 x.s.chk) ∧ V.cell? ⟨gX, offX + a * 14 + 9, none⟩ = some (.int .i64 x.s.rep) ∧ V.cell? ⟨gX, offX + a * 14 + 10, none⟩ = some (.int .i64 x.s.upp) ∧ V.cell? ⟨gX, offX + a * 14 + 11, none⟩ = some (.int .i64 x.s.low) ∧ V.cell? ⟨gX, offX + a * 14 + 12, none⟩ = some x.cv ∧ V.cell? ⟨gX, offX + a * 14 + 13, none⟩ = some (.int .i64 x.s.rsn) ∧ V.cell? ⟨gI, offI + i * 14, none⟩ = some (.int .i64 y.s.typ) ∧ V.cell? ⟨gI, offI + i * 14 + 1, none⟩ = some (.int .i64 y.s.org) ∧ V.cell? ⟨gI, offI + i * 14 + 2, none⟩ = some (.int .i64 y.s.num) ∧ V.cell? ⟨gI, offI + i * 14 + 3, none⟩ = some y.hv ∧ V.cell? ⟨gI, offI + i * 14 + 4, none⟩ = some y.tv ∧ V.cell? ⟨gI, offI + i * 14 + 5, none⟩ = some (.int .i64 y.s.srv) ∧ V.cell? ⟨gI, offI + i * 14 + 6, none⟩ = some (.int .i64 y.s.off) ∧ V.cell? ⟨gI, offI + i * 14 + 7, none⟩ = some y.dv ∧ V.cell? ⟨gI, offI + i * 14 + 8, none⟩ = some (.int .i64 y.s.chk) ∧ V.cell? ⟨gI, offI + i * 14 + 9, none⟩ = some (.int .i64 y.s.rep) ∧ V.cell? ⟨gI, offI + i * 14 + 10, none⟩ = some (.int .i64 y.s.upp) ∧ V.cell? ⟨gI, offI + i * 14 + 11, none⟩ = some (.int .i64 y.s.low) ∧ V.cell? ⟨gI, offI + i * 14 + 12, none⟩ = some y.cv ∧ V.cell? ⟨gI, offI + i * 14 + 13, none⟩ = some (.int .i64 y.s.rsn))
              (first | exact HC0 | exact HCU.out)
              (first
                | (go_at_call 26
                   refine hcall.mono ?_
                   rintro e U ⟨rfl, hU⟩
                   have hU' : Below wc.heap.size wc U := ⟨hU.os, hU.tape, hU.output, hU.size, hU.block⟩
                   have HE : Hid (Aq S1 S2 dr all I k (i + 1) = a + 1 ∧ Below W.heap.size W U) := HE0.out U hU'
                   have HCU : Hid (U.cell? ⟨gX, offX + a * 14, none⟩ = some (.int .i64 x.s.typ) ∧ U.cell? ⟨gX, offX + a * 14 + 1, none⟩ = some (.int .i64 x.s.org) ∧ U.cell? ⟨gX, offX + a * 14 + 2, none⟩ = some (.int .i64 x.s.num) ∧ U.cell? ⟨gX, offX + a * 14 + 3, none⟩ = some x.hv ∧ U.cell? ⟨gX, offX + a * 14 + 4, none⟩ = some x.tv ∧ U.cell? ⟨gX, offX + a * 14 + 5, none⟩ = some (.int .i64 x.s.srv) ∧ U.cell? ⟨gX, offX + a * 14 + 6, none⟩ = some (.int .i64 x.s.off) ∧ U.cell? ⟨gX, offX + a * 14 + 7, none⟩ = some x.dv ∧ U.cell? ⟨gX, offX + a * 14 + 8, none⟩ = some (.int .i64 x.s.chk) ∧ U.cell? ⟨gX, offX + a * 14 + 9, none⟩ = some (.int .i64 x.s.rep) ∧ U.cell? ⟨gX, offX + a * 14 + 10, none⟩ = some (.int .i64 x.s.upp) ∧ U.cell? ⟨gX, offX + a * 14 + 11, none⟩ = some (.int .i64 x.s.low) ∧ U.cell? ⟨gX, offX + a * 14 + 12, none⟩ = some x.cv ∧ U.cell? ⟨gX, offX + a * 14 + 13, none⟩ = some (.int .i64 x.s.rsn) ∧ U.cell? ⟨gI, offI + i * 14, none⟩ = some (.int .i64 y.s.typ) ∧ U.cell? ⟨gI, offI + i * 14 + 1, none⟩ = some (.int .i64 y.s.org) ∧ U.cell? ⟨gI, offI + i * 14 + 2, none⟩ = some (.int .i64 y.s.num) ∧ U.cell? ⟨gI, offI + i * 14 + 3, none⟩ = some y.hv ∧ U.cell? ⟨gI, offI + i * 14 + 4, none⟩ = some y.tv ∧ U.cell? ⟨gI, offI + i * 14 + 5, none⟩ = some (.int .i64 y.s.srv) ∧ U.cell? ⟨gI, offI + i * 14 + 6, none⟩ = some (.int .i64 y.s.off) ∧ U.cell? ⟨gI, offI + i * 14 + 7, none⟩ = some y.dv ∧ U.cell? ⟨gI, offI + i * 14 + 8, none⟩ = some (.int .i64 y.s.chk) ∧ U.cell? ⟨gI, offI + i * 14 + 9, none⟩ = some (.int .i64 y.s.rep) ∧ U.cell? ⟨gI, offI + i * 14 + 10, none⟩ = some (.int .i64 y.s.upp) ∧ U.cell? ⟨gI, offI + i * 14 + 11, none⟩ = some (.int .i64 y.s.low) ∧ U.cell? ⟨gI, offI + i * 14 + 12, none⟩ = some y.cv ∧ U.cell? ⟨gI, offI + i * 14 + 13, none⟩ = some (.int .i64 y.s.rsn)) := HC.out U HE.out.2
                   clear hU hU'))
            all_goals (
              clear hcall HC0
              go_wp2
              go_roundw
              case rel => exact ⟨i + 1, a + 1, by omega, by go_num, by go_num, HE⟩
              case measure => simp [intOf]; omega)
        · have hil' : ¬ (i : Int) < (n : Int) := by omega
          have hin : i = n := by omega
          have HE : Hid (Aq S1 S2 dr all I (k + 1) 0 = a ∧ Below W.heap.size W wr) := ⟨by rw [← Aq_end, HA.out.2.2.2.1, ← hin]; exact HK.out.1, HK.out.2⟩
          have hwk : IntKind.i64.wrap ((k : Int) + 1) = (k : Int) + 1 := by rw [IntKind.wrap_i64]; omega
          go_wp2_with fail
          go_roundw
          case rel => exact ⟨k + 1, a, by omega, by go_num, rfl, HE⟩
          case measure => simp [intOf]; omega
    · obtain rfl : k = 3 := by omega
      have haN : a = N := HK.out.1.symm.trans HAl.out
      subst haN
      have HF : Hid (Below w.heap.size w wr) := HbW.out.trans (HK.out.2.mono HbW.out.size)
      go_wp2
      go_ret
      exact ⟨by first | rfl | simp, HF.out⟩

end Go.Proofs.YtdfdaambfihjaaaDoor.L
