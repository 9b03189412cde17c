import Derived.Test.YtgmbpagbiakciadDoorBkMk
import Derived.Test.YtgmbpagbiakciadDoorBkRf1
namespace Go.Proofs.YtgmbpagbiakciadDoor
open Go.RowKit
set_option linter.unusedVariables false
set_option linter.unusedSimpArgs false

/-- What the document's piece says. -/
def P2 (k : Pk) (x : Pc) : Prop := 0 ≤ x.frm ∧ x.frm < x.to ∧ ((cks x.typ = true ∧ 1 ≤ x.chk ∧ x.chk ≤ 4611686018427387903 ∧ 0 ≤ x.rep ∧ x.rep ≤ 4611686018427387903) ∨ (cks x.typ = false ∧ x.chk = 0 ∧ x.rep = 0)) ∧
  (((x.typ = 0 ∨ x.typ = 1) ∧ x.to < k.red) ∨ (x.typ = 2 ∧ x.to = k.red ∧ k.red < k.size) ∨ (x.typ = 3 ∧ x.to = k.red ∧ k.red = k.size) ∨ (x.typ = 4 ∧ k.red ≤ x.frm ∧ x.to < k.size) ∨ (x.typ = 7 ∧ k.red ≤ x.frm ∧ x.to = k.size))
instance (k : Pk) (x : Pc) : Decidable (P2 k x) := by unfold P2; infer_instance
def pc2B (k : Pk) (x : Pc) : Bool := decide (P2 k x)
theorem asB_iff {c r : Int} : asB c r = true ↔ (1 ≤ c ∧ c ≤ 4611686018427387903 ∧ 0 ≤ r ∧ r ≤ 4611686018427387903) := by
  unfold asB btw
  simp [and_assoc]
theorem pc2B_eq {k : Pk} (x : Pc) (h : k.red ≤ k.size) : pc2B k x = pieceB k x := by
  have e : P2 k x ↔ PieceP k x := by
    unfold P2 PieceP
    rw [asB_iff, sil, decide_eq_true_eq]
    unfold cks endT
    constructor
    · rintro ⟨h1, h2, h3, h4⟩
      refine ⟨h1, h2, ?_⟩
      rcases h4 with ⟨q | q, h5⟩ | ⟨q, h5, h6⟩ | ⟨q, h5, h6⟩ | ⟨q, h5, h6⟩ | ⟨q, h5, h6⟩ <;> rw [q] at h3 ⊢ <;> simp at h3 ⊢
      · exact ⟨h5, h3⟩
      · exact ⟨h5, h3⟩
      · exact ⟨h5, h6, h3⟩
      · exact ⟨h5, by omega, h3⟩
      · exact ⟨h5, h6, h3⟩
      · exact ⟨h5, h6, h3⟩
    · rintro ⟨h1, h2, h3⟩
      refine ⟨h1, h2, ?_⟩
      rcases h3 with ⟨q, h4, h5⟩ | ⟨q, h4, h5⟩ | ⟨q, h4, h5, h6⟩ | ⟨q, h4, h5, h6⟩ | ⟨q, h4, h5, h6⟩
      · rw [q]; simp; exact ⟨h5, h4⟩
      · rw [q]; simp; exact ⟨h5, h4⟩
      · by_cases hz : k.red < k.size
        · rw [if_pos hz] at h5; rw [h5]; simp; exact ⟨h6, h4, hz⟩
        · rw [if_neg hz] at h5; rw [h5]; simp; exact ⟨h6, h4, by omega⟩
      · rw [q]; simp; exact ⟨h6, h4, h5⟩
      · rw [q]; simp; exact ⟨h6, h4, h5⟩
  unfold pc2B pieceB
  exact decide_eq_decide.mpr e

set_option maxRecDepth 100000 in
set_option maxHeartbeats 4000000 in
theorem piece2_any (k : Pk) (x : Pc) (w : World) :
    Calls Tryd.prog 49 #[.agg (pclC k), .agg (pcC x)] w fun e w' => e = .returned (.bool (pc2B k x)) ∧ Below w.heap.size w w' := by
  have HB : Hid (Below w.heap.size w ((w.alloc (.cells (pclC k) 28)).alloc (.cells (pcC x) 46))) := ((Below.refl _ _).alloc (Nat.le_refl _) _).alloc (by simp) _
  have HT : Hid (P2 k x → pc2B k x = true) := fun h => decide_eq_true h
  have HN : Hid (¬ P2 k x → pc2B k x = false) := fun h => decide_eq_false h
  generalize pc2B k x = q at *
  obtain ⟨ty, frm, tt, ck, rp⟩ := x
  unfold P2 at HT HN
  simp only at HT HN
  have HCK : Hid (∀ W, Calls Tryd.prog 74 #[.int .i64 ty] W fun e w' => e = .returned (.bool (cks ty)) ∧ W = w') := fun W => check_any ty W
  go_enter Tryd.func49, Tryd.ntmps49
  by_cases h1 : 0 ≤ frm
  rotate_left
  · skip
    have HV : Hid (q = false) := HN.out (by simp [cks]; omega)
    clear HT HN
    go_wp2_with (go_at_call 74; refine (HCK.out _).mono ?_; rintro e w' ⟨rfl, rfl⟩)
    go_ret
    exact ⟨by rw [HV.out]; rfl, HB.out⟩
  by_cases h2 : frm < tt
  rotate_left
  · skip
    have HV : Hid (q = false) := HN.out (by simp [cks]; omega)
    clear HT HN
    go_wp2_with (go_at_call 74; refine (HCK.out _).mono ?_; rintro e w' ⟨rfl, rfl⟩)
    go_ret
    exact ⟨by rw [HV.out]; rfl, HB.out⟩
  obtain ⟨Q, hQ⟩ : ∃ Q, cks ty = Q := ⟨_, rfl⟩
  have HQ : Hid (cks ty = Q) := hQ
  rw [hQ] at HCK
  clear hQ
  obtain ⟨Bq, hBq⟩ : ∃ Bq : Bool, Bq = !decide ((Q = true ∧ 1 ≤ ck ∧ ck ≤ 4611686018427387903 ∧ 0 ≤ rp ∧ rp ≤ 4611686018427387903) ∨ (Q = false ∧ ck = 0 ∧ rp = 0)) := ⟨_, rfl⟩
  have HBQ : Hid (Bq = !decide ((Q = true ∧ 1 ≤ ck ∧ ck ≤ 4611686018427387903 ∧ 0 ≤ rp ∧ rp ≤ 4611686018427387903) ∨ (Q = false ∧ ck = 0 ∧ rp = 0))) := hBq
  clear hBq
  go_upto_region 4 with (go_at_call 74; refine (HCK.out _).mono ?_; rintro e w' ⟨rfl, rfl⟩)
  go_cut [53] from 19 to 53 (fun q wx => q = .bool Bq ∧ wx = (w.alloc (.cells (pclC k) 28)).alloc (.cells (pcC ⟨ty, frm, tt, ck, rp⟩) 46))
  case first =>
    clear HT HN HCK HQ
    cases Q with
    | true =>
      by_cases g0 : 1 ≤ ck
      rotate_left
      · skip
        have HV : Hid (Bq = true) := by unfold Hid; rw [HBQ.out, decide_eq_false (by rintro (⟨_, h⟩ | ⟨h, _⟩); omega; cases h)]; rfl
        clear HBQ
        go_wp2_with fail
        go_meet
        exact ⟨congrArg Value.bool (by first | exact HV.out.symm | (simp [HV.out]; omega) | simp [HV.out]), rfl⟩
      by_cases g1 : ck ≤ 4611686018427387903
      rotate_left
      · skip
        have HV : Hid (Bq = true) := by unfold Hid; rw [HBQ.out, decide_eq_false (by rintro (⟨_, h⟩ | ⟨h, _⟩); omega; cases h)]; rfl
        clear HBQ
        go_wp2_with fail
        go_meet
        exact ⟨congrArg Value.bool (by first | exact HV.out.symm | (simp [HV.out]; omega) | simp [HV.out]), rfl⟩
      by_cases g2 : 0 ≤ rp
      rotate_left
      · skip
        have HV : Hid (Bq = true) := by unfold Hid; rw [HBQ.out, decide_eq_false (by rintro (⟨_, h⟩ | ⟨h, _⟩); omega; cases h)]; rfl
        clear HBQ
        go_wp2_with fail
        go_meet
        exact ⟨congrArg Value.bool (by first | exact HV.out.symm | (simp [HV.out]; omega) | simp [HV.out]), rfl⟩
      by_cases g3 : rp ≤ 4611686018427387903
      rotate_left
      · skip
        have HV : Hid (Bq = true) := by unfold Hid; rw [HBQ.out, decide_eq_false (by rintro (⟨_, h⟩ | ⟨h, _⟩); omega; cases h)]; rfl
        clear HBQ
        go_wp2_with fail
        go_meet
        exact ⟨congrArg Value.bool (by first | exact HV.out.symm | (simp [HV.out]; omega) | simp [HV.out]), rfl⟩
      have HV : Hid (Bq = false) := by unfold Hid; rw [HBQ.out, decide_eq_true (by refine .inl ⟨rfl, ?_⟩; omega)]; rfl
      clear HBQ
      go_wp2_with fail
      go_meet
      exact ⟨congrArg Value.bool (by first | exact HV.out.symm | (simp [HV.out]; omega) | simp [HV.out]), rfl⟩
    | false =>
      by_cases g0 : ck = 0
      rotate_left
      · skip
        have HV : Hid (Bq = true) := by unfold Hid; rw [HBQ.out, decide_eq_false (by rintro (⟨h, _⟩ | ⟨_, h⟩); cases h; omega)]; rfl
        clear HBQ
        have be_ck0 : (ck == 0) = false := by simp [g0]
        have bn_ck0 : (ck != 0) = true := by simp [g0]
        clear g0
        go_wp2_with fail
        go_meet
        exact ⟨congrArg Value.bool (by first | exact HV.out.symm | (simp [HV.out]; omega) | simp [HV.out]), rfl⟩
      by_cases g1 : rp = 0
      rotate_left
      · skip
        have HV : Hid (Bq = true) := by unfold Hid; rw [HBQ.out, decide_eq_false (by rintro (⟨h, _⟩ | ⟨_, h⟩); cases h; omega)]; rfl
        clear HBQ
        have be_ck0 : (ck == 0) = true := by simp [g0]
        have bn_ck0 : (ck != 0) = false := by simp [g0]
        clear g0
        have be_rp0 : (rp == 0) = false := by simp [g1]
        have bn_rp0 : (rp != 0) = true := by simp [g1]
        clear g1
        go_wp2_with fail
        go_meet
        exact ⟨congrArg Value.bool (by first | exact HV.out.symm | (simp [HV.out]; omega) | simp [HV.out]), rfl⟩
      have HV : Hid (Bq = false) := by unfold Hid; rw [HBQ.out, decide_eq_true (by refine .inr ⟨rfl, ?_⟩; omega)]; rfl
      clear HBQ
      have be_ck0 : (ck == 0) = true := by simp [g0]
      have bn_ck0 : (ck != 0) = false := by simp [g0]
      clear g0
      have be_rp0 : (rp == 0) = true := by simp [g1]
      have bn_rp0 : (rp != 0) = false := by simp [g1]
      clear g1
      go_wp2_with fail
      go_meet
      exact ⟨congrArg Value.bool (by first | exact HV.out.symm | (simp [HV.out]; omega) | simp [HV.out]), rfl⟩
  case rest =>
    obtain ⟨rfl, rfl⟩ := hcut
    cases Bq with
    | true =>
      have HV : Hid (q = false) := HN.out (by have h4 := HBQ.out; have h5 := HQ.out; intro hp; have h3 := hp.2.2.1; rw [h5] at h3; rw [decide_eq_true h3] at h4; cases h4)
      clear HT HN HBQ HCK HQ
      go_wp2
      go_ret
      exact ⟨by rw [HV.out]; rfl, HB.out⟩
    | false =>
      have HOK : Hid ((cks ty = true ∧ 1 ≤ ck ∧ ck ≤ 4611686018427387903 ∧ 0 ≤ rp ∧ rp ≤ 4611686018427387903) ∨ (cks ty = false ∧ ck = 0 ∧ rp = 0)) := by have h4 := HBQ.out; unfold Hid; rw [HQ.out]; by_cases hp : (Q = true ∧ 1 ≤ ck ∧ ck ≤ 4611686018427387903 ∧ 0 ≤ rp ∧ rp ≤ 4611686018427387903) ∨ (Q = false ∧ ck = 0 ∧ rp = 0); exact hp; exfalso; rw [decide_eq_false hp] at h4; cases h4
      clear HBQ HCK HQ
      by_cases t0 : ty = 0
      · subst t0
        by_cases g0 : tt < k.red
        rotate_left
        · skip
          have HV : Hid (q = false) := HN.out (fun hp => by have h3 := hp.2.2.2; simp at h3; omega)
          clear HT HN HOK
          go_wp2
          go_ret
          exact ⟨by rw [HV.out]; rfl, HB.out⟩
        have HV : Hid (q = true) := HT.out ⟨h1, h2, HOK.out, by simp; omega⟩
        clear HT HN HOK
        go_wp2
        go_ret
        exact ⟨by rw [HV.out]; rfl, HB.out⟩
      by_cases t1 : ty = 1
      · subst t1
        by_cases g0 : tt < k.red
        rotate_left
        · skip
          have HV : Hid (q = false) := HN.out (fun hp => by have h3 := hp.2.2.2; simp at h3; omega)
          clear HT HN HOK
          go_wp2
          go_ret
          exact ⟨by rw [HV.out]; rfl, HB.out⟩
        have HV : Hid (q = true) := HT.out ⟨h1, h2, HOK.out, by simp; omega⟩
        clear HT HN HOK
        go_wp2
        go_ret
        exact ⟨by rw [HV.out]; rfl, HB.out⟩
      by_cases t2 : ty = 2
      · subst t2
        by_cases g0 : tt = k.red
        rotate_left
        · skip
          have HV : Hid (q = false) := HN.out (fun hp => by have h3 := hp.2.2.2; simp at h3; omega)
          have be_ttkred : (tt == k.red) = false := by simp [g0]
          have bn_ttkred : (tt != k.red) = true := by simp [g0]
          clear g0
          clear HT HN HOK
          go_wp2
          go_ret
          exact ⟨by rw [HV.out]; rfl, HB.out⟩
        by_cases g1 : k.red < k.size
        rotate_left
        · skip
          have HV : Hid (q = false) := HN.out (fun hp => by have h3 := hp.2.2.2; simp at h3; omega)
          have be_ttkred : (tt == k.red) = true := by simp [g0]
          have bn_ttkred : (tt != k.red) = false := by simp [g0]
          clear g0
          clear HT HN HOK
          go_wp2
          go_ret
          exact ⟨by rw [HV.out]; rfl, HB.out⟩
        have HV : Hid (q = true) := HT.out ⟨h1, h2, HOK.out, by simp; omega⟩
        have be_ttkred : (tt == k.red) = true := by simp [g0]
        have bn_ttkred : (tt != k.red) = false := by simp [g0]
        clear g0
        clear HT HN HOK
        go_wp2
        go_ret
        exact ⟨by rw [HV.out]; rfl, HB.out⟩
      by_cases t3 : ty = 3
      · subst t3
        by_cases g0 : tt = k.red
        rotate_left
        · skip
          have HV : Hid (q = false) := HN.out (fun hp => by have h3 := hp.2.2.2; simp at h3; omega)
          have be_ttkred : (tt == k.red) = false := by simp [g0]
          have bn_ttkred : (tt != k.red) = true := by simp [g0]
          clear g0
          clear HT HN HOK
          go_wp2
          go_ret
          exact ⟨by rw [HV.out]; rfl, HB.out⟩
        by_cases g1 : k.red = k.size
        rotate_left
        · skip
          have HV : Hid (q = false) := HN.out (fun hp => by have h3 := hp.2.2.2; simp at h3; omega)
          have be_ttkred : (tt == k.red) = true := by simp [g0]
          have bn_ttkred : (tt != k.red) = false := by simp [g0]
          clear g0
          have be_kredksize : (k.red == k.size) = false := by simp [g1]
          have bn_kredksize : (k.red != k.size) = true := by simp [g1]
          clear g1
          clear HT HN HOK
          go_wp2
          go_ret
          exact ⟨by rw [HV.out]; rfl, HB.out⟩
        have HV : Hid (q = true) := HT.out ⟨h1, h2, HOK.out, by simp; omega⟩
        have be_ttkred : (tt == k.red) = true := by simp [g0]
        have bn_ttkred : (tt != k.red) = false := by simp [g0]
        clear g0
        have be_kredksize : (k.red == k.size) = true := by simp [g1]
        have bn_kredksize : (k.red != k.size) = false := by simp [g1]
        clear g1
        clear HT HN HOK
        go_wp2
        go_ret
        exact ⟨by rw [HV.out]; rfl, HB.out⟩
      by_cases t4 : ty = 4
      · subst t4
        by_cases g0 : k.red ≤ frm
        rotate_left
        · skip
          have HV : Hid (q = false) := HN.out (fun hp => by have h3 := hp.2.2.2; simp at h3; omega)
          clear HT HN HOK
          go_wp2
          go_ret
          exact ⟨by rw [HV.out]; rfl, HB.out⟩
        by_cases g1 : tt < k.size
        rotate_left
        · skip
          have HV : Hid (q = false) := HN.out (fun hp => by have h3 := hp.2.2.2; simp at h3; omega)
          clear HT HN HOK
          go_wp2
          go_ret
          exact ⟨by rw [HV.out]; rfl, HB.out⟩
        have HV : Hid (q = true) := HT.out ⟨h1, h2, HOK.out, by simp; omega⟩
        clear HT HN HOK
        go_wp2
        go_ret
        exact ⟨by rw [HV.out]; rfl, HB.out⟩
      by_cases t7 : ty = 7
      · subst t7
        by_cases g0 : k.red ≤ frm
        rotate_left
        · skip
          have HV : Hid (q = false) := HN.out (fun hp => by have h3 := hp.2.2.2; simp at h3; omega)
          clear HT HN HOK
          go_wp2
          go_ret
          exact ⟨by rw [HV.out]; rfl, HB.out⟩
        by_cases g1 : tt = k.size
        rotate_left
        · skip
          have HV : Hid (q = false) := HN.out (fun hp => by have h3 := hp.2.2.2; simp at h3; omega)
          have be_ttksize : (tt == k.size) = false := by simp [g1]
          have bn_ttksize : (tt != k.size) = true := by simp [g1]
          clear g1
          clear HT HN HOK
          go_wp2
          go_ret
          exact ⟨by rw [HV.out]; rfl, HB.out⟩
        have HV : Hid (q = true) := HT.out ⟨h1, h2, HOK.out, by simp; omega⟩
        have be_ttksize : (tt == k.size) = true := by simp [g1]
        have bn_ttksize : (tt != k.size) = false := by simp [g1]
        clear g1
        clear HT HN HOK
        go_wp2
        go_ret
        exact ⟨by rw [HV.out]; rfl, HB.out⟩
      have n0 : (ty == 0) = false := beq_false_of_ne t0
      have n1 : (ty == 1) = false := beq_false_of_ne t1
      have n2 : (ty == 2) = false := beq_false_of_ne t2
      have n3 : (ty == 3) = false := beq_false_of_ne t3
      have n4 : (ty == 4) = false := beq_false_of_ne t4
      have n7 : (ty == 7) = false := beq_false_of_ne t7
      have HV : Hid (q = false) := HN.out (fun hp => by have h3 := hp.2.2.2; omega)
      clear t0
      clear t1
      clear t2
      clear t3
      clear t4
      clear t7
      clear HT HN HOK
      go_wp2
      go_ret
      exact ⟨by rw [HV.out]; rfl, HB.out⟩
end Go.Proofs.YtgmbpagbiakciadDoor
