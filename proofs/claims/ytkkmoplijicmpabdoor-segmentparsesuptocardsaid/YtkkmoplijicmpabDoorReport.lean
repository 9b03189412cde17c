import Derived.Test.YtkkmoplijicmpabDoorBody
namespace Go.Proofs.YtkkmoplijicmpabDoor
open Go.RowKit


def ReportAt (b : Nat) (a : Option Addr) (len cap : Nat) (zs : List Int) (st : St) (g : Int → Int → Int → Int → Value → List Value) (s : Sg) (w : World) (e : Ending) (w' : World) : Prop :=
  ∃ rp' ck' up' lo' a' c' cl st', e = .returned (.tuple #[]) ∧ At w' b a len cap zs st' (g ck' rp' up' lo' (.slice a' cl.length c')) ∧ w'.ownsRow w.heap.size 37 2 (.slice a' cl.length c') cl.length (cl.flatMap spc) ∧ cl.length ≤ 1000 ∧
    w.grownBy w' (some b) ∧ Step zs (reportp s) st { s with rep := rp', chk := ck', upp := up', low := lo', clm := cl } st'

theorem one9_4 : one (anyB 9 4) = 0 := by decide
theorem one9_24 : one (anyB 9 24) = 1 := by decide
set_option maxHeartbeats 4000000 in
theorem report_at {b len cap : Nat} {a : Option Addr} {zs : List Int} {st : St} {w : World} {t o n : Int} {hd tv : Value} {sv oo : Int} {dv : Value} {ck rp up lo : Int} {rs : Int} (s : Sg) (h : At w b a len cap zs st (gl 9 t o n hd tv sv oo dv ck rp up lo (.slice none 0 0) rs)) :
    Calls Tryd.prog 76 #[.pointer (some ⟨b, 0, none⟩)] w (ReportAt b a len cap zs st (fun ck' rp' up' lo' v => gl 9 t o n hd tv sv oo dv ck' rp' up' lo' v rs) s w) := by
  have H0 : Hid (At w b a len cap zs st (gl 9 t o n hd tv sv oo dv ck rp up lo (.slice none 0 0) rs)) := h
  have G0 : Hid (w.grownBy w (some b)) := World.grownBy.refl _ _
  clear h
  go_enter Tryd.func76, Tryd.ntmps76
  have l0_h := H0.out.cell 0 rfl
  go_wp2_with fail
  go_region_with (first
    | (go_at_call 60; refine (leastReport_any _ _).mono ?_; rintro e w' ⟨rfl, rfl⟩; rw [one9_24])
    | (go_at_call 72
       refine (number_at 1 4611686018427387903 (H0.out.drew)).mono ?_
       rintro e w1 ⟨v0, s1, rfl, ha, hg, hs, p0, q0, r0⟩
       have c0 := ha.cell 10 rfl
       have z0 := ha.fz 13
       have H1 : Hid (At (w1.setCell ⟨b, 13, none⟩ (.int .i64 v0)) b a len cap zs s1 (gl 9 t o n hd tv sv oo dv ck v0 up lo (.slice none 0 0) rs)) := ha.put 10 _ 13 rfl
       have G1 : Hid (w.grownBy (w1.setCell ⟨b, 13, none⟩ (.int .i64 v0)) (some b)) := grown_trans (grown_trans G0.out (grown_undrew hg)) (grown_set _ _ _ _)
       have S0 : Hid (Step zs (numb 1 4611686018427387903) st v0 s1) := hs
       clear ha hg hs))
  clear H0 G0 l0_h
  have l1_h := H1.out.cell 0 rfl
  go_wp2_with fail
  go_region_with (first
    | (go_at_call 59; refine (leastCheck_any _ _).mono ?_; rintro e w' ⟨rfl, rfl⟩; rw [one9_4])
    | (go_at_call 72
       refine (number_at 0 4611686018427387903 (H1.out.drew)).mono ?_
       rintro e w2 ⟨v1, s2, rfl, ha, hg, hs, p1, q1, r1⟩
       have c1 := ha.cell 9 rfl
       have z1 := ha.fz 12
       have H2 : Hid (At (w2.setCell ⟨b, 12, none⟩ (.int .i64 v1)) b a len cap zs s2 (gl 9 t o n hd tv sv oo dv v1 v0 up lo (.slice none 0 0) rs)) := ha.put 9 _ 12 rfl
       have G2 : Hid (w.grownBy (w2.setCell ⟨b, 12, none⟩ (.int .i64 v1)) (some b)) := grown_trans (grown_trans G1.out (grown_undrew hg)) (grown_set _ _ _ _)
       have S1 : Hid (Step zs (numb 0 4611686018427387903) s1 v1 s2) := hs
       clear ha hg hs))
  clear H1 G1 l1_h
  go_wp2_with fail
  refine (number_at 1 65536 (H2.out)).mono ?_
  rintro e w3 ⟨v2, s3, rfl, ha, hg, hs, p2, q2, r2⟩
  have c2 := ha.cell 11 rfl
  have z2 := ha.fz 14
  have H3 : Hid (At (w3.setCell ⟨b, 14, none⟩ (.int .i64 v2)) b a len cap zs s3 (gl 9 t o n hd tv sv oo dv v1 v0 v2 lo (.slice none 0 0) rs)) := ha.put 11 _ 14 rfl
  have G3 : Hid (w.grownBy (w3.setCell ⟨b, 14, none⟩ (.int .i64 v2)) (some b)) := grown_trans (grown_trans G2.out hg) (grown_set _ _ _ _)
  have S2 : Hid (Step zs (numb 1 65536) s2 v2 s3) := hs
  clear ha hg hs
  clear H2 G2
  have l3_up := H3.out.cell 11 rfl
  go_wp2_with fail
  go_region_with (first
    | (go_at_call 72
       rw [IntWalk.i64_in (v2 - 1) (by omega)]
       refine (number_at 0 (v2 - 1) (H3.out.drew)).mono ?_
       rintro e w4 ⟨v3, s4, rfl, ha, hg, hs, p3, q3, r3⟩
       have c3 := ha.cell 12 rfl
       have z3 := ha.fz 15
       have H4 : Hid (At (w4.setCell ⟨b, 15, none⟩ (.int .i64 v3)) b a len cap zs s4 (gl 9 t o n hd tv sv oo dv v1 v0 v2 v3 (.slice none 0 0) rs)) := ha.put 12 _ 15 rfl
       have G4 : Hid (w.grownBy (w4.setCell ⟨b, 15, none⟩ (.int .i64 v3)) (some b)) := grown_trans (grown_trans G3.out (grown_undrew hg)) (grown_set _ _ _ _)
       have S3 : Hid (Step zs (numb 0 (v2 - 1)) s3 v3 s4) := hs
       clear ha hg hs))
  clear H3 G3 l3_up
  have hu : 0 ≤ v2 ∧ v2 ≤ 65536 := by omega
  have hl : 0 ≤ v3 ∧ v3 ≤ 65536 := by omega
  go_wp2_with fail
  refine (number_at 1 1000 (H4.out)).mono ?_
  rintro e w5 ⟨v4, s5, rfl, ha, hg, hs, p4, q4, r4⟩
  have H5 : Hid (At w5 b a len cap zs s5 (gl 9 t o n hd tv sv oo dv v1 v0 v2 v3 (.slice none 0 0) rs)) := ha
  have G5 : Hid (w.grownBy w5 (some b)) := grown_trans G4.out hg
  have S4 : Hid (Step zs (numb 1 1000) s4 v4 s5) := hs
  clear ha hg hs
  clear H4 G4
  obtain ⟨m, rfl⟩ : ∃ m : Nat, v4 = m := ⟨v4.toNat, by omega⟩
  have hm : m ≤ 1000 := by omega
  go_wp2_with fail
  refine (claims_at m hm hl hu H5.out).mono ?_
  rintro e w6 ⟨a', c', cl, s6, rfl, ha, hown, hcl, hg, hs⟩
  have hsz := G5.out.size
  go_wp2
  go_end0
  refine ⟨v0, v1, v2, v3, a', c', cl, s6, rfl, ha, own_base hown hsz, hcl, grown_trans G5.out hg, ?_⟩
  refine S0.out.bind (S1.out.bind (S2.out.bind (S3.out.bind (S4.out.bind ?_))))
  rw [Int.toNat_natCast]
  exact Step.bind hs (Step.ret _)

end Go.Proofs.YtkkmoplijicmpabDoor
