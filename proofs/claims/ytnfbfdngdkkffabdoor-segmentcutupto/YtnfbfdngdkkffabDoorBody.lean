import Derived.Test.YtnfbfdngdkkffabDoorKind
namespace Go.Proofs.YtnfbfdngdkkffabDoor
open Go.RowKit

/-- The reader's cells behind its cursor: its parts, and the segment that it has got. -/
def gl (h t o n : Int) (hd tv : Value) (sv oo : Int) (dv : Value) (ck rp up lo : Int) (cv : Value) (rs : Int) : List Value :=
  [.int .u8 h, .int .i64 t, .int .i64 o, .int .i64 n, hd, tv, .int .i64 sv, .int .i64 oo, dv, .int .i64 ck, .int .i64 rp, .int .i64 up, .int .i64 lo, cv, .int .i64 rs]

theorem At.drew {w : World} {b len cap : Nat} {a : Option Addr} {zs : List Int} {st : St} {tl : List Value} (h : At w b a len cap zs st tl) : At w.drew b a len cap zs st tl := h.keep (Below.refl _ _).drew

def Block3At (b : Nat) (a : Option Addr) (len cap : Nat) (zs : List Int) (st : St) (t o n : Int) (hd tv : Value) (up lo : Int) (cv : Value) (rs : Int) (s : Sg) (w : World) (e : Ending) (w' : World) : Prop :=
  ∃ sv' o' ck' rp' a' c' d st', e = .returned (.tuple #[]) ∧ At w' b a len cap zs st' (gl 3 t o n hd tv sv' o' (.slice a' d.length c') ck' rp' up lo cv rs) ∧ w'.ownsRow w.heap.size 5 1 (.slice a' d.length c') d.length (d.map (Value.int .u8)) ∧ d.length ≤ 70000 ∧ Bytey d ∧
    w.grownBy w' (some b) ∧ Step zs (blockp 3 s) st { s with srv := sv', off := o', chk := ck', rep := rp', data := d } st'

theorem any3_4 : anyB 3 4 = false := by decide
theorem one3_4 : one (anyB 3 4) = 0 := by decide
theorem one3_24 : one (anyB 3 24) = 0 := by decide
set_option maxHeartbeats 4000000 in
theorem block3_at {b len cap : Nat} {a : Option Addr} {zs : List Int} {st : St} {w : World} {t o n : Int} {hd tv : Value} {sv oo : Int} {dv : Value} {ck rp up lo : Int} {cv : Value} {rs : Int} (s : Sg) (hck : s.chk = ck) (hrp : s.rep = rp) (h : At w b a len cap zs st (gl 3 t o n hd tv sv oo dv ck rp up lo cv rs)) :
    Calls Tryd.prog 75 #[.pointer (some ⟨b, 0, none⟩)] w (Block3At b a len cap zs st t o n hd tv up lo cv rs s w) := by
  have H0 : Hid (At w b a len cap zs st (gl 3 t o n hd tv sv oo dv ck rp up lo cv rs)) := h
  have G0 : Hid (w.grownBy w (some b)) := World.grownBy.refl _ _
  have HW : Hid (b < w.heap.size) := h.lt
  have HK : Hid (s.chk = ck ∧ s.rep = rp) := ⟨hck, hrp⟩
  clear h hck hrp
  go_enter Tryd.func75, Tryd.ntmps75
  go_wp2_with fail
  refine (number_at 0 4611686018427387903 (H0.out)).mono ?_
  rintro e w1 ⟨v0, s1, rfl, ha, hg, hs, p0, q0, r0⟩
  have c0 := ha.cell 6 rfl
  have z0 := ha.fz 9
  have H1 : Hid (At (w1.setCell ⟨b, 9, none⟩ (.int .i64 v0)) b a len cap zs s1 (gl 3 t o n hd tv v0 oo dv ck rp up lo cv rs)) := ha.put 6 _ 9 rfl
  have G1 : Hid (w.grownBy (w1.setCell ⟨b, 9, none⟩ (.int .i64 v0)) (some b)) := grown_trans (grown_trans G0.out hg) (grown_set _ _ _ _)
  have S0 : Hid (Step zs (numb 0 4611686018427387903) st v0 s1) := hs
  clear ha hg hs
  clear H0 G0
  go_wp2_with fail
  refine (number_at 0 4611686018427387903 (H1.out)).mono ?_
  rintro e w2 ⟨v1, s2, rfl, ha, hg, hs, p1, q1, r1⟩
  have c1 := ha.cell 7 rfl
  have z1 := ha.fz 10
  have H2 : Hid (At (w2.setCell ⟨b, 10, none⟩ (.int .i64 v1)) b a len cap zs s2 (gl 3 t o n hd tv v0 v1 dv ck rp up lo cv rs)) := ha.put 7 _ 10 rfl
  have G2 : Hid (w.grownBy (w2.setCell ⟨b, 10, none⟩ (.int .i64 v1)) (some b)) := grown_trans (grown_trans G1.out hg) (grown_set _ _ _ _)
  have S1 : Hid (Step zs (numb 0 4611686018427387903) s1 v1 s2) := hs
  clear ha hg hs
  clear H1 G1
  have l2_of := H2.out.cell 7 rfl
  go_wp2_with fail
  go_region_with (first
    | (go_at_call 72
       rw [IntWalk.i64_in (65536 - v1) (by omega)]
       refine (number_at 1 (65536 - v1) (H2.out.drew)).mono ?_
       rintro e w3 ⟨v2, s3, rfl, ha, hg, hs, p2, q2, r2⟩
       have H3 : Hid (At w3 b a len cap zs s3 (gl 3 t o n hd tv v0 v1 dv ck rp up lo cv rs)) := ha
       have G3 : Hid (w.grownBy w3 (some b)) := grown_trans G2.out (grown_undrew hg)
       have S2 : Hid (Step zs (numb 1 (65536 - v1)) s2 v2 s3) := hs
       clear ha hg hs))
  clear H2 G2 l2_of
  have lh3 := H3.out.cell 0 rfl
  go_wp2_with fail
  refine (any_any _ _ _).mono ?_
  rintro e w' ⟨rfl, rfl⟩
  rw [any3_4]
  clear lh3
  have hm0 : 0 ≤ v2 ∧ v2 ≤ 65536 := by omega
  go_wp2_with fail
  refine (row_at v2 hm0.1 hm0.2 H3.out).mono ?_
  rintro e w4 ⟨ad, cd, d, s4, rfl, hown, hd9, hby, ha, hg, hs⟩
  have c3 := ha.cell 8 rfl
  have z3 := ha.fz 11
  have H4 : Hid (At (w4.setCell ⟨b, 11, none⟩ (.slice ad d.length cd)) b a len cap zs s4 (gl 3 t o n hd tv v0 v1 (.slice ad d.length cd) ck rp up lo cv rs)) := ha.put 8 _ 11 rfl
  have G4 : Hid (w.grownBy (w4.setCell ⟨b, 11, none⟩ (.slice ad d.length cd)) (some b)) := grown_trans (grown_trans G3.out hg) (grown_set _ _ _ _)
  have HO : Hid ((w4.setCell ⟨b, 11, none⟩ (.slice ad d.length cd)).ownsRow w.heap.size 5 1 (.slice ad d.length cd) d.length (d.map (Value.int .u8))) := own_base (own_keep hown (grown_set _ _ _ _) (fun k hk e => by have := (hown.lt k hk).1; have h1 := HW.out; have h2 := G3.out.size; simp at e; omega)) (by have h2 := G3.out.size; simpa [World.setCell] using h2)
  have SR : Hid (Step zs (rowp v2) s3 d s4) := hs
  clear ha hg hs hown H3 G3
  go_wp2
  go_end0
  refine ⟨v0, v1, ck, rp, ad, cd, d, s4, rfl, H4.out, HO.out, hd9, hby, G4.out, ?_⟩
  refine S0.out.bind (S1.out.bind (S2.out.bind ?_))
  rw [if_neg (by decide), ← HK.out.1, ← HK.out.2]
  exact SR.out.bind (Step.ret _)

def Block7At (b : Nat) (a : Option Addr) (len cap : Nat) (zs : List Int) (st : St) (t o n : Int) (hd tv : Value) (up lo : Int) (cv : Value) (rs : Int) (s : Sg) (w : World) (e : Ending) (w' : World) : Prop :=
  ∃ sv' o' ck' rp' a' c' d st', e = .returned (.tuple #[]) ∧ At w' b a len cap zs st' (gl 7 t o n hd tv sv' o' (.slice a' d.length c') ck' rp' up lo cv rs) ∧ w'.ownsRow w.heap.size 5 1 (.slice a' d.length c') d.length (d.map (Value.int .u8)) ∧ d.length ≤ 70000 ∧ Bytey d ∧
    w.grownBy w' (some b) ∧ Step zs (blockp 7 s) st { s with srv := sv', off := o', chk := ck', rep := rp', data := d } st'

theorem any7_4 : anyB 7 4 = true := by decide
theorem one7_4 : one (anyB 7 4) = 1 := by decide
theorem one7_24 : one (anyB 7 24) = 0 := by decide
set_option maxHeartbeats 4000000 in
theorem block7_at {b len cap : Nat} {a : Option Addr} {zs : List Int} {st : St} {w : World} {t o n : Int} {hd tv : Value} {sv oo : Int} {dv : Value} {ck rp up lo : Int} {cv : Value} {rs : Int} (s : Sg) (hck : s.chk = ck) (hrp : s.rep = rp) (h : At w b a len cap zs st (gl 7 t o n hd tv sv oo dv ck rp up lo cv rs)) :
    Calls Tryd.prog 75 #[.pointer (some ⟨b, 0, none⟩)] w (Block7At b a len cap zs st t o n hd tv up lo cv rs s w) := by
  have H0 : Hid (At w b a len cap zs st (gl 7 t o n hd tv sv oo dv ck rp up lo cv rs)) := h
  have G0 : Hid (w.grownBy w (some b)) := World.grownBy.refl _ _
  have HW : Hid (b < w.heap.size) := h.lt
  have HK : Hid (s.chk = ck ∧ s.rep = rp) := ⟨hck, hrp⟩
  clear h hck hrp
  go_enter Tryd.func75, Tryd.ntmps75
  go_wp2_with fail
  refine (number_at 0 4611686018427387903 (H0.out)).mono ?_
  rintro e w1 ⟨v0, s1, rfl, ha, hg, hs, p0, q0, r0⟩
  have c0 := ha.cell 6 rfl
  have z0 := ha.fz 9
  have H1 : Hid (At (w1.setCell ⟨b, 9, none⟩ (.int .i64 v0)) b a len cap zs s1 (gl 7 t o n hd tv v0 oo dv ck rp up lo cv rs)) := ha.put 6 _ 9 rfl
  have G1 : Hid (w.grownBy (w1.setCell ⟨b, 9, none⟩ (.int .i64 v0)) (some b)) := grown_trans (grown_trans G0.out hg) (grown_set _ _ _ _)
  have S0 : Hid (Step zs (numb 0 4611686018427387903) st v0 s1) := hs
  clear ha hg hs
  clear H0 G0
  go_wp2_with fail
  refine (number_at 0 4611686018427387903 (H1.out)).mono ?_
  rintro e w2 ⟨v1, s2, rfl, ha, hg, hs, p1, q1, r1⟩
  have c1 := ha.cell 7 rfl
  have z1 := ha.fz 10
  have H2 : Hid (At (w2.setCell ⟨b, 10, none⟩ (.int .i64 v1)) b a len cap zs s2 (gl 7 t o n hd tv v0 v1 dv ck rp up lo cv rs)) := ha.put 7 _ 10 rfl
  have G2 : Hid (w.grownBy (w2.setCell ⟨b, 10, none⟩ (.int .i64 v1)) (some b)) := grown_trans (grown_trans G1.out hg) (grown_set _ _ _ _)
  have S1 : Hid (Step zs (numb 0 4611686018427387903) s1 v1 s2) := hs
  clear ha hg hs
  clear H1 G1
  have l2_of := H2.out.cell 7 rfl
  go_wp2_with fail
  go_region_with (first
    | (go_at_call 72
       rw [IntWalk.i64_in (65536 - v1) (by omega)]
       refine (number_at 1 (65536 - v1) (H2.out.drew)).mono ?_
       rintro e w3 ⟨v2, s3, rfl, ha, hg, hs, p2, q2, r2⟩
       have H3 : Hid (At w3 b a len cap zs s3 (gl 7 t o n hd tv v0 v1 dv ck rp up lo cv rs)) := ha
       have G3 : Hid (w.grownBy w3 (some b)) := grown_trans G2.out (grown_undrew hg)
       have S2 : Hid (Step zs (numb 1 (65536 - v1)) s2 v2 s3) := hs
       clear ha hg hs))
  clear H2 G2 l2_of
  have lh3 := H3.out.cell 0 rfl
  go_wp2_with fail
  refine (any_any _ _ _).mono ?_
  rintro e w' ⟨rfl, rfl⟩
  rw [any7_4]
  clear lh3
  have l3_h := H3.out.cell 0 rfl
  go_wp2_with fail
  go_region_with (first
    | (go_at_call 59; refine (leastCheck_any _ _).mono ?_; rintro e w' ⟨rfl, rfl⟩; rw [one7_4])
    | (go_at_call 72
       refine (number_at 1 4611686018427387903 (H3.out.drew)).mono ?_
       rintro e w4 ⟨v3, s4, rfl, ha, hg, hs, p3, q3, r3⟩
       have c3 := ha.cell 9 rfl
       have z3 := ha.fz 12
       have H4 : Hid (At (w4.setCell ⟨b, 12, none⟩ (.int .i64 v3)) b a len cap zs s4 (gl 7 t o n hd tv v0 v1 dv v3 rp up lo cv rs)) := ha.put 9 _ 12 rfl
       have G4 : Hid (w.grownBy (w4.setCell ⟨b, 12, none⟩ (.int .i64 v3)) (some b)) := grown_trans (grown_trans G3.out (grown_undrew hg)) (grown_set _ _ _ _)
       have S3 : Hid (Step zs (numb 1 4611686018427387903) s3 v3 s4) := hs
       clear ha hg hs))
  clear H3 G3 l3_h
  have l4_h := H4.out.cell 0 rfl
  go_wp2_with fail
  go_region_with (first
    | (go_at_call 60; refine (leastReport_any _ _).mono ?_; rintro e w' ⟨rfl, rfl⟩; rw [one7_24])
    | (go_at_call 72
       refine (number_at 0 4611686018427387903 (H4.out.drew)).mono ?_
       rintro e w5 ⟨v4, s5, rfl, ha, hg, hs, p4, q4, r4⟩
       have c4 := ha.cell 10 rfl
       have z4 := ha.fz 13
       have H5 : Hid (At (w5.setCell ⟨b, 13, none⟩ (.int .i64 v4)) b a len cap zs s5 (gl 7 t o n hd tv v0 v1 dv v3 v4 up lo cv rs)) := ha.put 10 _ 13 rfl
       have G5 : Hid (w.grownBy (w5.setCell ⟨b, 13, none⟩ (.int .i64 v4)) (some b)) := grown_trans (grown_trans G4.out (grown_undrew hg)) (grown_set _ _ _ _)
       have S4 : Hid (Step zs (numb 0 4611686018427387903) s4 v4 s5) := hs
       clear ha hg hs))
  clear H4 G4 l4_h
  have hm0 : 0 ≤ v2 ∧ v2 ≤ 65536 := by omega
  go_wp2_with fail
  refine (row_at v2 hm0.1 hm0.2 H5.out).mono ?_
  rintro e w6 ⟨ad, cd, d, s6, rfl, hown, hd9, hby, ha, hg, hs⟩
  have c5 := ha.cell 8 rfl
  have z5 := ha.fz 11
  have H6 : Hid (At (w6.setCell ⟨b, 11, none⟩ (.slice ad d.length cd)) b a len cap zs s6 (gl 7 t o n hd tv v0 v1 (.slice ad d.length cd) v3 v4 up lo cv rs)) := ha.put 8 _ 11 rfl
  have G6 : Hid (w.grownBy (w6.setCell ⟨b, 11, none⟩ (.slice ad d.length cd)) (some b)) := grown_trans (grown_trans G5.out hg) (grown_set _ _ _ _)
  have HO : Hid ((w6.setCell ⟨b, 11, none⟩ (.slice ad d.length cd)).ownsRow w.heap.size 5 1 (.slice ad d.length cd) d.length (d.map (Value.int .u8))) := own_base (own_keep hown (grown_set _ _ _ _) (fun k hk e => by have := (hown.lt k hk).1; have h1 := HW.out; have h2 := G5.out.size; simp at e; omega)) (by have h2 := G5.out.size; simpa [World.setCell] using h2)
  have SR : Hid (Step zs (rowp v2) s5 d s6) := hs
  clear ha hg hs hown H5 G5
  go_wp2
  go_end0
  refine ⟨v0, v1, v3, v4, ad, cd, d, s6, rfl, H6.out, HO.out, hd9, hby, G6.out, ?_⟩
  refine S0.out.bind (S1.out.bind (S2.out.bind ?_))
  simp only [if_true]
  exact S3.out.bind (S4.out.bind (SR.out.bind (Step.ret _)))

def ReasonAt (b : Nat) (a : Option Addr) (len cap : Nat) (zs : List Int) (st : St) (g : Int → List Value) (s : Sg) (w : World) (e : Ending) (w' : World) : Prop :=
  ∃ r st', e = .returned (.tuple #[]) ∧ At w' b a len cap zs st' (g r) ∧ w.grownBy w' (some b) ∧ Step zs (reasonp s) st { s with rsn := r } st'

set_option maxHeartbeats 1000000 in
theorem reason_at {b len cap : Nat} {a : Option Addr} {zs : List Int} {st : St} {w : World} {hh t o n : Int} {hd tv : Value} {sv oo : Int} {dv : Value} {ck rp up lo : Int} {cv : Value} {rs : Int} (s : Sg) (h : At w b a len cap zs st (gl hh t o n hd tv sv oo dv ck rp up lo cv rs)) :
    Calls Tryd.prog 77 #[.pointer (some ⟨b, 0, none⟩)] w (ReasonAt b a len cap zs st (fun r => gl hh t o n hd tv sv oo dv ck rp up lo cv r) s w) := by
  have H0 : Hid (At w b a len cap zs st (gl hh t o n hd tv sv oo dv ck rp up lo cv rs)) := h
  clear h
  go_enter Tryd.func77, Tryd.ntmps77
  go_wp2_with fail
  refine (octet_at H0.out).mono ?_
  rintro e w1 ⟨r, s1, rfl, ha, hg, hs, ht0, ht1⟩
  have c4 := ha.cell 14 rfl
  have z4 := ha.fz 17
  have ha1 := ha.put 14 (.int .i64 r) 17 rfl
  have d4 := ha1.cell 14 rfl
  have H1 : Hid (At (w1.setCell ⟨b, 17, none⟩ (.int .i64 r)) b a len cap zs s1 (gl hh t o n hd tv sv oo dv ck rp up lo cv r)) := ha1
  have G1 : Hid (w.grownBy (w1.setCell ⟨b, 17, none⟩ (.int .i64 r)) (some b)) := grown_trans hg (grown_set _ _ _ _)
  have S0 : Hid (Step zs oct st r s1) := hs
  clear ha ha1 hg hs
  by_cases h5 : 5 < r
  · go_wp2_with fail
    refine (fail_at 23 (by omega) H1.out).mono ?_
    rintro e w4 ⟨rfl, hat4, hg4⟩
    go_wp2
    go_end0
    exact ⟨r, _, rfl, hat4, grown_trans G1.out hg4, S0.out.bind (by rw [if_neg (by omega)]; exact step_fail _ 23 (by omega) (fun _ => rfl))⟩
  · go_wp2
    go_end0
    exact ⟨r, s1, rfl, H1.out, G1.out, S0.out.bind (by rw [if_pos (by omega)]; exact Step.ret _)⟩

end Go.Proofs.YtnfbfdngdkkffabDoor
