import Derived.Test.YtkkmoplijicmpabDoorCur
namespace Go.Proofs.YtkkmoplijicmpabDoor
open Go.RowKit

/-- The reader's cells behind its cursor: its parts, and the segment that it has got. -/
def gl (h t o n : Int) (hd tv : Value) (sv oo : Int) (dv : Value) (ck rp up lo : Int) (cv : Value) (rs : Int) : List Value :=
  [.int .u8 h, .int .i64 t, .int .i64 o, .int .i64 n, hd, tv, .int .i64 sv, .int .i64 oo, dv, .int .i64 ck, .int .i64 rp, .int .i64 up, .int .i64 lo, cv, .int .i64 rs]

theorem At.drew {w : World} {b len cap : Nat} {a : Option Addr} {zs : List Int} {st : St} {tl : List Value} (h : At w b a len cap zs st tl) : At w.drew b a len cap zs st tl := h.keep (Below.refl _ _).drew

def Block3At (b : Nat) (a : Option Addr) (len cap : Nat) (zs : List Int) (st : St) (t o n : Int) (hd tv : Value) (up lo : Int) (cv : Value) (rs : Int) (s : Sg) (w : World) (e : Ending) (w' : World) : Prop :=
  ∃ sv' o' ck' rp' a' c' d st', e = .returned (.tuple #[]) ∧ At w' b a len cap zs st' (gl 3 t o n hd tv sv' o' (.slice a' d.length c') ck' rp' up lo cv rs) ∧ w'.ownsRow w.heap.size 5 1 (.slice a' d.length c') d.length (d.map (Value.int .u8)) ∧ d.length ≤ 70000 ∧ Bytey d ∧
    w.grownBy w' (some b) ∧ Step zs (blockp 3 s) st { s with srv := sv', off := o', chk := ck', rep := rp', data := d } st'

theorem any3_4 : anyB 3 4 = false := by decide
theorem one3_4 : one (anyB 3 4) = 0 := by decide
theorem one3_24 : one (anyB 3 24) = 0 := by decide
set_option maxHeartbeats 4000000 in
theorem block3_at {b len cap : Nat} {a : Option Addr} {zs : List Int} {st : St} {w : World} {t o n : Int} {hd tv : Value} {sv oo : Int} {dv : Value} {ck rp up lo : Int} {cv : Value} {rs : Int} (s : Sg) (hck : s.chk = ck) (hrp : s.rep = rp) (h : At w b a len cap zs st (gl 3 t o n hd tv sv oo dv ck rp up lo cv rs)) :
    Calls Tryd.prog 75 #[.pointer (some ⟨b, 0, none⟩)] w (Block3At b a len cap zs st t o n hd tv up lo cv rs s w) := by
  have H0 : Hid (At w b a len cap zs st (gl 3 t o n hd tv sv oo dv ck rp up lo cv rs)) := h
  have G0 : Hid (w.grownBy w (some b)) := World.grownBy.refl _ _
  have HW : Hid (b < w.heap.size) := h.lt
  have HK : Hid (s.chk = ck ∧ s.rep = rp) := ⟨hck, hrp⟩
  clear h hck hrp
  go_enter Tryd.func75, Tryd.ntmps75
  go_wp2_with fail
  refine (number_at 0 4611686018427387903 (H0.out)).mono ?_
  rintro e w1 ⟨v0, s1, rfl, ha, hg, hs, p0, q0, r0⟩
  have c0 := ha.cell 6 rfl
  have z0 := ha.fz 9
  have H1 : Hid (At (w1.setCell ⟨b, 9, none⟩ (.int .i64 v0)) b a len cap zs s1 (gl 3 t o n hd tv v0 oo dv ck rp up lo cv rs)) := ha.put 6 _ 9 rfl
  have G1 : Hid (w.grownBy (w1.setCell ⟨b, 9, none⟩ (.int .i64 v0)) (some b)) := grown_trans (grown_trans G0.out hg) (grown_set _ _ _ _)
  have S0 : Hid (Step zs (numb 0 4611686018427387903) st v0 s1) := hs
  clear ha hg hs
  clear H0 G0
  go_wp2_with fail
  refine (number_at 0 4611686018427387903 (H1.out)).mono ?_
  rintro e w2 ⟨v1, s2, rfl, ha, hg, hs, p1, q1, r1⟩
  have c1 := ha.cell 7 rfl
  have z1 := ha.fz 10
  have H2 : Hid (At (w2.setCell ⟨b, 10, none⟩ (.int .i64 v1)) b a len cap zs s2 (gl 3 t o n hd tv v0 v1 dv ck rp up lo cv rs)) := ha.put 7 _ 10 rfl
  have G2 : Hid (w.grownBy (w2.setCell ⟨b, 10, none⟩ (.int .i64 v1)) (some b)) := grown_trans (grown_trans G1.out hg) (grown_set _ _ _ _)
  have S1 : Hid (Step zs (numb 0 4611686018427387903) s1 v1 s2) := hs
  clear ha hg hs
  clear H1 G1
  have l2_of := H2.out.cell 7 rfl
  go_wp2_with fail
  go_region_with (first
    | (go_at_call 72
       rw [IntWalk.i64_in (65536 - v1) (by omega)]
       refine (number_at 1 (65536 - v1) (H2.out.drew)).mono ?_
       rintro e w3 ⟨v2, s3, rfl, ha, hg, hs, p2, q2, r2⟩
       have H3 : Hid (At w3 b a len cap zs s3 (gl 3 t o n hd tv v0 v1 dv ck rp up lo cv rs)) := ha
       have G3 : Hid (w.grownBy w3 (some b)) := grown_trans G2.out (grown_undrew hg)
       have S2 : Hid (Step zs (numb 1 (65536 - v1)) s2 v2 s3) := hs
       clear ha hg hs))
  clear H2 G2 l2_of
  have lh3 := H3.out.cell 0 rfl
  go_wp2_with fail
  refine (any_any _ _ _).mono ?_
  rintro e w' ⟨rfl, rfl⟩
  rw [any3_4]
  clear lh3
  have hm0 : 0 ≤ v2 ∧ v2 ≤ 65536 := by omega
  go_wp2_with fail
  refine (row_at v2 hm0.1 hm0.2 H3.out).mono ?_
  rintro e w4 ⟨ad, cd, d, s4, rfl, hown, hd9, hby, ha, hg, hs⟩
  have c3 := ha.cell 8 rfl
  have z3 := ha.fz 11
  have H4 : Hid (At (w4.setCell ⟨b, 11, none⟩ (.slice ad d.length cd)) b a len cap zs s4 (gl 3 t o n hd tv v0 v1 (.slice ad d.length cd) ck rp up lo cv rs)) := ha.put 8 _ 11 rfl
  have G4 : Hid (w.grownBy (w4.setCell ⟨b, 11, none⟩ (.slice ad d.length cd)) (some b)) := grown_trans (grown_trans G3.out hg) (grown_set _ _ _ _)
  have HO : Hid ((w4.setCell ⟨b, 11, none⟩ (.slice ad d.length cd)).ownsRow w.heap.size 5 1 (.slice ad d.length cd) d.length (d.map (Value.int .u8))) := own_base (own_keep hown (grown_set _ _ _ _) (fun k hk e => by have := (hown.lt k hk).1; have h1 := HW.out; have h2 := G3.out.size; simp at e; omega)) (by have h2 := G3.out.size; simpa [World.setCell] using h2)
  have SR : Hid (Step zs (rowp v2) s3 d s4) := hs
  clear ha hg hs hown H3 G3
  go_wp2
  go_end0
  refine ⟨v0, v1, ck, rp, ad, cd, d, s4, rfl, H4.out, HO.out, hd9, hby, G4.out, ?_⟩
  refine S0.out.bind (S1.out.bind (S2.out.bind ?_))
  rw [if_neg (by decide), ← HK.out.1, ← HK.out.2]
  exact SR.out.bind (Step.ret _)

def Block7At (b : Nat) (a : Option Addr) (len cap : Nat) (zs : List Int) (st : St) (t o n : Int) (hd tv : Value) (up lo : Int) (cv : Value) (rs : Int) (s : Sg) (w : World) (e : Ending) (w' : World) : Prop :=
  ∃ sv' o' ck' rp' a' c' d st', e = .returned (.tuple #[]) ∧ At w' b a len cap zs st' (gl 7 t o n hd tv sv' o' (.slice a' d.length c') ck' rp' up lo cv rs) ∧ w'.ownsRow w.heap.size 5 1 (.slice a' d.length c') d.length (d.map (Value.int .u8)) ∧ d.length ≤ 70000 ∧ Bytey d ∧
    w.grownBy w' (some b) ∧ Step zs (blockp 7 s) st { s with srv := sv', off := o', chk := ck', rep := rp', data := d } st'

theorem any7_4 : anyB 7 4 = true := by decide
theorem one7_4 : one (anyB 7 4) = 1 := by decide
theorem one7_24 : one (anyB 7 24) = 0 := by decide
set_option maxHeartbeats 4000000 in
theorem block7_at {b len cap : Nat} {a : Option Addr} {zs : List Int} {st : St} {w : World} {t o n : Int} {hd tv : Value} {sv oo : Int} {dv : Value} {ck rp up lo : Int} {cv : Value} {rs : Int} (s : Sg) (hck : s.chk = ck) (hrp : s.rep = rp) (h : At w b a len cap zs st (gl 7 t o n hd tv sv oo dv ck rp up lo cv rs)) :
    Calls Tryd.prog 75 #[.pointer (some ⟨b, 0, none⟩)] w (Block7At b a len cap zs st t o n hd tv up lo cv rs s w) := by
  have H0 : Hid (At w b a len cap zs st (gl 7 t o n hd tv sv oo dv ck rp up lo cv rs)) := h
  have G0 : Hid (w.grownBy w (some b)) := World.grownBy.refl _ _
  have HW : Hid (b < w.heap.size) := h.lt
  have HK : Hid (s.chk = ck ∧ s.rep = rp) := ⟨hck, hrp⟩
  clear h hck hrp
  go_enter Tryd.func75, Tryd.ntmps75
  go_wp2_with fail
  refine (number_at 0 4611686018427387903 (H0.out)).mono ?_
  rintro e w1 ⟨v0, s1, rfl, ha, hg, hs, p0, q0, r0⟩
  have c0 := ha.cell 6 rfl
  have z0 := ha.fz 9
  have H1 : Hid (At (w1.setCell ⟨b, 9, none⟩ (.int .i64 v0)) b a len cap zs s1 (gl 7 t o n hd tv v0 oo dv ck rp up lo cv rs)) := ha.put 6 _ 9 rfl
  have G1 : Hid (w.grownBy (w1.setCell ⟨b, 9, none⟩ (.int .i64 v0)) (some b)) := grown_trans (grown_trans G0.out hg) (grown_set _ _ _ _)
  have S0 : Hid (Step zs (numb 0 4611686018427387903) st v0 s1) := hs
  clear ha hg hs
  clear H0 G0
  go_wp2_with fail
  refine (number_at 0 4611686018427387903 (H1.out)).mono ?_
  rintro e w2 ⟨v1, s2, rfl, ha, hg, hs, p1, q1, r1⟩
  have c1 := ha.cell 7 rfl
  have z1 := ha.fz 10
  have H2 : Hid (At (w2.setCell ⟨b, 10, none⟩ (.int .i64 v1)) b a len cap zs s2 (gl 7 t o n hd tv v0 v1 dv ck rp up lo cv rs)) := ha.put 7 _ 10 rfl
  have G2 : Hid (w.grownBy (w2.setCell ⟨b, 10, none⟩ (.int .i64 v1)) (some b)) := grown_trans (grown_trans G1.out hg) (grown_set _ _ _ _)
  have S1 : Hid (Step zs (numb 0 4611686018427387903) s1 v1 s2) := hs
  clear ha hg hs
  clear H1 G1
  have l2_of := H2.out.cell 7 rfl
  go_wp2_with fail
  go_region_with (first
    | (go_at_call 72
       rw [IntWalk.i64_in (65536 - v1) (by omega)]
       refine (number_at 1 (65536 - v1) (H2.out.drew)).mono ?_
       rintro e w3 ⟨v2, s3, rfl, ha, hg, hs, p2, q2, r2⟩
       have H3 : Hid (At w3 b a len cap zs s3 (gl 7 t o n hd tv v0 v1 dv ck rp up lo cv rs)) := ha
       have G3 : Hid (w.grownBy w3 (some b)) := grown_trans G2.out (grown_undrew hg)
       have S2 : Hid (Step zs (numb 1 (65536 - v1)) s2 v2 s3) := hs
       clear ha hg hs))
  clear H2 G2 l2_of
  have lh3 := H3.out.cell 0 rfl
  go_wp2_with fail
  refine (any_any _ _ _).mono ?_
  rintro e w' ⟨rfl, rfl⟩
  rw [any7_4]
  clear lh3
  have l3_h := H3.out.cell 0 rfl
  go_wp2_with fail
  go_region_with (first
    | (go_at_call 59; refine (leastCheck_any _ _).mono ?_; rintro e w' ⟨rfl, rfl⟩; rw [one7_4])
    | (go_at_call 72
       refine (number_at 1 4611686018427387903 (H3.out.drew)).mono ?_
       rintro e w4 ⟨v3, s4, rfl, ha, hg, hs, p3, q3, r3⟩
       have c3 := ha.cell 9 rfl
       have z3 := ha.fz 12
       have H4 : Hid (At (w4.setCell ⟨b, 12, none⟩ (.int .i64 v3)) b a len cap zs s4 (gl 7 t o n hd tv v0 v1 dv v3 rp up lo cv rs)) := ha.put 9 _ 12 rfl
       have G4 : Hid (w.grownBy (w4.setCell ⟨b, 12, none⟩ (.int .i64 v3)) (some b)) := grown_trans (grown_trans G3.out (grown_undrew hg)) (grown_set _ _ _ _)
       have S3 : Hid (Step zs (numb 1 4611686018427387903) s3 v3 s4) := hs
       clear ha hg hs))
  clear H3 G3 l3_h
  have l4_h := H4.out.cell 0 rfl
  go_wp2_with fail
  go_region_with (first
    | (go_at_call 60; refine (leastReport_any _ _).mono ?_; rintro e w' ⟨rfl, rfl⟩; rw [one7_24])
    | (go_at_call 72
       refine (number_at 0 4611686018427387903 (H4.out.drew)).mono ?_
       rintro e w5 ⟨v4, s5, rfl, ha, hg, hs, p4, q4, r4⟩
       have c4 := ha.cell 10 rfl
       have z4 := ha.fz 13
       have H5 : Hid (At (w5.setCell ⟨b, 13, none⟩ (.int .i64 v4)) b a len cap zs s5 (gl 7 t o n hd tv v0 v1 dv v3 v4 up lo cv rs)) := ha.put 10 _ 13 rfl
       have G5 : Hid (w.grownBy (w5.setCell ⟨b, 13, none⟩ (.int .i64 v4)) (some b)) := grown_trans (grown_trans G4.out (grown_undrew hg)) (grown_set _ _ _ _)
       have S4 : Hid (Step zs (numb 0 4611686018427387903) s4 v4 s5) := hs
       clear ha hg hs))
  clear H4 G4 l4_h
  have hm0 : 0 ≤ v2 ∧ v2 ≤ 65536 := by omega
  go_wp2_with fail
  refine (row_at v2 hm0.1 hm0.2 H5.out).mono ?_
  rintro e w6 ⟨ad, cd, d, s6, rfl, hown, hd9, hby, ha, hg, hs⟩
  have c5 := ha.cell 8 rfl
  have z5 := ha.fz 11
  have H6 : Hid (At (w6.setCell ⟨b, 11, none⟩ (.slice ad d.length cd)) b a len cap zs s6 (gl 7 t o n hd tv v0 v1 (.slice ad d.length cd) v3 v4 up lo cv rs)) := ha.put 8 _ 11 rfl
  have G6 : Hid (w.grownBy (w6.setCell ⟨b, 11, none⟩ (.slice ad d.length cd)) (some b)) := grown_trans (grown_trans G5.out hg) (grown_set _ _ _ _)
  have HO : Hid ((w6.setCell ⟨b, 11, none⟩ (.slice ad d.length cd)).ownsRow w.heap.size 5 1 (.slice ad d.length cd) d.length (d.map (Value.int .u8))) := own_base (own_keep hown (grown_set _ _ _ _) (fun k hk e => by have := (hown.lt k hk).1; have h1 := HW.out; have h2 := G5.out.size; simp at e; omega)) (by have h2 := G5.out.size; simpa [World.setCell] using h2)
  have SR : Hid (Step zs (rowp v2) s5 d s6) := hs
  clear ha hg hs hown H5 G5
  go_wp2
  go_end0
  refine ⟨v0, v1, v3, v4, ad, cd, d, s6, rfl, H6.out, HO.out, hd9, hby, G6.out, ?_⟩
  refine S0.out.bind (S1.out.bind (S2.out.bind ?_))
  simp only [if_true]
  exact S3.out.bind (S4.out.bind (SR.out.bind (Step.ret _)))

def ReasonAt (b : Nat) (a : Option Addr) (len cap : Nat) (zs : List Int) (st : St) (g : Int → List Value) (s : Sg) (w : World) (e : Ending) (w' : World) : Prop :=
  ∃ r st', e = .returned (.tuple #[]) ∧ At w' b a len cap zs st' (g r) ∧ w.grownBy w' (some b) ∧ Step zs (reasonp s) st { s with rsn := r } st'

set_option maxHeartbeats 1000000 in
theorem reason_at {b len cap : Nat} {a : Option Addr} {zs : List Int} {st : St} {w : World} {hh t o n : Int} {hd tv : Value} {sv oo : Int} {dv : Value} {ck rp up lo : Int} {cv : Value} {rs : Int} (s : Sg) (h : At w b a len cap zs st (gl hh t o n hd tv sv oo dv ck rp up lo cv rs)) :
    Calls Tryd.prog 77 #[.pointer (some ⟨b, 0, none⟩)] w (ReasonAt b a len cap zs st (fun r => gl hh t o n hd tv sv oo dv ck rp up lo cv r) s w) := by
  have H0 : Hid (At w b a len cap zs st (gl hh t o n hd tv sv oo dv ck rp up lo cv rs)) := h
  clear h
  go_enter Tryd.func77, Tryd.ntmps77
  go_wp2_with fail
  refine (octet_at H0.out).mono ?_
  rintro e w1 ⟨r, s1, rfl, ha, hg, hs, ht0, ht1⟩
  have c4 := ha.cell 14 rfl
  have z4 := ha.fz 17
  have ha1 := ha.put 14 (.int .i64 r) 17 rfl
  have d4 := ha1.cell 14 rfl
  have H1 : Hid (At (w1.setCell ⟨b, 17, none⟩ (.int .i64 r)) b a len cap zs s1 (gl hh t o n hd tv sv oo dv ck rp up lo cv r)) := ha1
  have G1 : Hid (w.grownBy (w1.setCell ⟨b, 17, none⟩ (.int .i64 r)) (some b)) := grown_trans hg (grown_set _ _ _ _)
  have S0 : Hid (Step zs oct st r s1) := hs
  clear ha ha1 hg hs
  by_cases h5 : 5 < r
  · go_wp2_with fail
    refine (fail_at 23 (by omega) H1.out).mono ?_
    rintro e w4 ⟨rfl, hat4, hg4⟩
    go_wp2
    go_end0
    exact ⟨r, _, rfl, hat4, grown_trans G1.out hg4, S0.out.bind (by rw [if_neg (by omega)]; exact step_fail _ 23 (by omega) (fun _ => rfl))⟩
  · go_wp2
    go_end0
    exact ⟨r, s1, rfl, H1.out, G1.out, S0.out.bind (by rw [if_pos (by omega)]; exact Step.ret _)⟩

end Go.Proofs.YtkkmoplijicmpabDoor

namespace Go.Proofs.YtkkmoplijicmpabDoor
open Go.RowKit

def spc (p : Int × Int) : List Value := [.int .i64 p.1, .int .i64 p.2]
theorem Tryd.info_span : (Tryd.prog.info? 37).map (fun i => (i.zero, i.size, i.bytes)) = some (some (.agg #[.int .i64 0, .int .i64 0]), 2, 16) := by kernel_rfl

def ClaimsAt (b : Nat) (a : Option Addr) (len cap : Nat) (zs : List Int) (st : St) (g : Value → List Value) (n : Nat) (lo up : Int) (w : World) (e : Ending) (w' : World) : Prop :=
  ∃ a' c' cl st', e = .returned (.tuple #[]) ∧ At w' b a len cap zs st' (g (.slice a' cl.length c')) ∧ w'.ownsRow w.heap.size 37 2 (.slice a' cl.length c') cl.length (cl.flatMap spc) ∧ cl.length ≤ 1000 ∧ w.grownBy w' (some b) ∧ Step zs (claimsp lo up n 0 []) st cl st'

theorem claimsp_step (zs : List Int) (n k : Nat) (hk : k < n) (lo up least : Int) (acc : List (Int × Int)) {st st1 st2 st0 : St} {f m : Int} (h : ∀ (β : Type) (K : List (Int × Int) → Pr β), fin ((claimsp lo up n 0 []).bind K) zs st0 = fin ((claimsp lo up (n - k) least acc).bind K) zs st)
    (h1 : Step zs (numb least (up - lo - 1)) st f st1) (h2 : Step zs (numb 1 (up - (lo + f))) st1 m st2) : ∀ (β : Type) (K : List (Int × Int) → Pr β), fin ((claimsp lo up n 0 []).bind K) zs st0 = fin ((claimsp lo up (n - (k + 1)) (lo + f + m - lo + 1) (acc ++ [(lo + f, lo + f + m)])).bind K) zs st2 := by
  intro β K
  rw [h, show n - k = (n - (k + 1)) + 1 from by omega, claimsp, Pr.bind_assoc, h1, Pr.bind_assoc, h2]

set_option maxHeartbeats 2000000 in
theorem claims_at {b len cap : Nat} {a : Option Addr} {zs : List Int} {st : St} {w : World} {hh t o nn : Int} {hd tv : Value} {sv oo : Int} {dv : Value} {ck rp up lo : Int} {rs : Int} (n : Nat) (hn : n ≤ 1000) (hlo : 0 ≤ lo ∧ lo ≤ 65536) (hup : 0 ≤ up ∧ up ≤ 65536) (h : At w b a len cap zs st (gl hh t o nn hd tv sv oo dv ck rp up lo (.slice none 0 0) rs)) :
    Calls Tryd.prog 83 #[.pointer (some ⟨b, 0, none⟩), .int .i64 n] w (ClaimsAt b a len cap zs st (fun v => gl hh t o nn hd tv sv oo dv ck rp up lo v rs) n lo up w) := by
  obtain ⟨i0, hi, hz0, hz1, hz2⟩ := info_parts Tryd.info_span
  have HA : Hid (At w b a len cap zs st (gl hh t o nn hd tv sv oo dv ck rp up lo (.slice none 0 0) rs)) := h
  have l12 := h.cell 12 rfl
  have l11 := h.cell 11 rfl
  have hbw := h.lt
  clear h
  go_enter Tryd.func83, Tryd.ntmps83
  go_wp2_with fail
  go_quiet (fail)
  go_wp2_with fail
  clear l12 l11
  go_loopw [6, 20] (fun q i wr => ∃ (k : Nat) (least : Int) (cl : List (Int × Int)) (cv : Value) (st' : St), k ≤ n ∧ i = .int .i64 k ∧ q = .int .i64 least ∧ 0 ≤ least ∧ least ≤ 200000 ∧ cl.length = k ∧ At wr b a len cap zs st' (gl hh t o nn hd tv sv oo dv ck rp up lo cv rs) ∧ wr.ownsRow w.heap.size 37 2 cv cl.length (cl.flatMap spc) ∧ w.grownBy wr (some b) ∧ (∀ (β : Type) (K : List (Int × Int) → Pr β), fin ((claimsp lo up n 0 []).bind K) zs st = fin ((claimsp lo up (n - k) least cl).bind K) zs st')) (fun _ i _ => n - (intOf i).toNat)
  case atStart => exact ⟨0, 0, [], .slice none 0 0, st, by omega, rfl, rfl, by omega, by omega, rfl, HA.out.keep ⟨rfl, rfl, rfl, Nat.le_refl _, fun _ _ => rfl⟩, World.ownsRow_nil _ _ _ _, ⟨rfl, rfl, rfl, Nat.le_refl _, fun _ _ _ => rfl⟩, fun _ _ => rfl⟩
  case round =>
    obtain ⟨k, least, cl, cv, st', hk, rfl, rfl, hq0, hq1, hcl, hat, hown, hgr, hfin⟩ := hrel
    have HT : Hid (At wr b a len cap zs st' (gl hh t o nn hd tv sv oo dv ck rp up lo cv rs)) := hat
    have HO : Hid (wr.ownsRow w.heap.size 37 2 cv cl.length (cl.flatMap spc)) := hown
    have HG : Hid (w.grownBy wr (some b)) := hgr
    have HF : Hid (∀ (β : Type) (K : List (Int × Int) → Pr β), fin ((claimsp lo up n 0 []).bind K) zs st = fin ((claimsp lo up (n - k) least cl).bind K) zs st') := hfin
    have HL : Hid (cl.length = k) := hcl
    clear hat hown hgr hfin hcl
    by_cases hlt : k < n
    · have hlt' : (k : Int) < (n : Int) := by omega
      go_wp2_with fail
      refine (number_at least (up - lo - 1) HT.out).mono ?_
      rintro e w1 ⟨f, s1, rfl, ha, hg, hs, p0, q0, r0⟩
      have hf : 0 ≤ f ∧ f ≤ 65536 := by omega
      have H1 : Hid (At w1 b a len cap zs s1 (gl hh t o nn hd tv sv oo dv ck rp up lo cv rs)) := ha
      have G1 : Hid (wr.grownBy w1 (some b)) := hg
      have S1 : Hid (Step zs (numb least (up - lo - 1)) st' f s1) := hs
      clear ha hg hs p0 q0 r0
      go_wp2_with fail
      refine (number_at 1 (up - (lo + f)) H1.out).mono ?_
      rintro e w2 ⟨m, s2, rfl, ha, hg, hs, p0, q0, r0⟩
      have hm : 0 ≤ m ∧ m ≤ 65536 := by omega
      have l13 := ha.cell 13 rfl
      have H2 : Hid (At w2 b a len cap zs s2 (gl hh t o nn hd tv sv oo dv ck rp up lo cv rs)) := ha
      have G2 : Hid (wr.grownBy w2 (some b)) := grown_trans G1.out hg
      have HF2 : Hid (∀ (β : Type) (K : List (Int × Int) → Pr β), fin ((claimsp lo up n 0 []).bind K) zs st = fin ((claimsp lo up (n - (k + 1)) (lo + f + m - lo + 1) (cl ++ [(lo + f, lo + f + m)])).bind K) zs s2) := claimsp_step zs n k hlt lo up least cl HF.out S1.out hs
      have HO2 : Hid (w2.ownsRow w.heap.size 37 2 cv cl.length (cl.flatMap spc)) := own_keep HO.out G2.out (fun j hj e => by have := (HO.out.lt j hj).1; simp at e; omega)
      have HGW : Hid (w.grownBy w2 (some b)) := grown_trans HG.out G2.out
      have hsz : w.heap.size ≤ w2.heap.size := HGW.out.size
      have hblk : Hid (∀ j, cv.ownBlock = some j → w.heap.size ≤ j ∧ j < w2.heap.size) := HO2.out.lt
      have z16 := H2.out.fz 16
      clear ha hg hs p0 q0 r0 HT HO HG HF H1 G1 S1 G2
      obtain ⟨av, cc, hv⟩ := own_shape HO2.out
      subst hv
      go_wp2_with (at_builtin; refine wpList_append_own_at _ rfl _ _ 26 rfl w.heap.size 37 i0 (.agg #[.int .i64 0, .int .i64 0]) 2 16 Tryd.underlying26 hi hz0 hz1 hz2 rfl (by decide) _ _ _ rfl (HO2.out.alloc _) ⟨w2.heap.size, 0, none⟩ 1 1 [.int .i64 (lo + f), .int .i64 (lo + f + m)] rfl rfl ?c1 ?c2 ?c3 ?c4 ?c5 ?_)
      case c1 => exact cell_two_new _ _ _ _
      case c2 => intro u hu; simp at hu; rcases hu with rfl | rfl <;> rfl
      case c3 => have := HL.out; unfold maxLen; omega
      case c4 => have := HL.out; omega
      case c5 => simp; omega
      intro v' w3 hown3 hgrow3 _ hat3
      have hat4 : At w3 b a len cap zs s2 (gl hh t o nn hd tv sv oo dv ck rp up lo (.slice av cl.length cc) rs) := H2.out.keep (((Below.refl _ _).alloc (by omega) _).grown hgrow3 (by simp; omega) (fun j hj => by have := hblk.out j hj; omega))
      have c16 := hat4.cell 13 rfl
      have z16' := hat4.fz 16
      have H3 : Hid (At (w3.setCell ⟨b, 16, none⟩ v') b a len cap zs s2 (gl hh t o nn hd tv sv oo dv ck rp up lo v' rs)) := hat4.put 13 _ 16 rfl
      have G3 : Hid (w.grownBy (w3.setCell ⟨b, 16, none⟩ v') (some b)) := grown_trans (grown_step (grown_trans HGW.out (grown_alloc _ _ _)) hgrow3 (fun j hj => (hblk.out j hj).1)) (grown_set _ _ _ _)
      have hown4 : w3.ownsRow w.heap.size 37 2 v' (cl ++ [(lo + f, lo + f + m)]).length ((cl ++ [(lo + f, lo + f + m)]).flatMap spc) := by
        rw [List.length_append, List.flatMap_append]; exact hown3
      have HO3 : Hid ((w3.setCell ⟨b, 16, none⟩ v').ownsRow w.heap.size 37 2 v' (cl ++ [(lo + f, lo + f + m)]).length ((cl ++ [(lo + f, lo + f + m)]).flatMap spc)) := own_keep hown4 (grown_set _ _ _ _) (fun j hj e => by have := (hown4.lt j hj).1; simp at e; omega)
      clear hat4 hown4 hown3 hgrow3 hat3 H2 HO2 HGW hblk z16 l13
      obtain ⟨av', cc', hv'⟩ := own_shape HO3.out
      rw [show (cl ++ [(lo + f, lo + f + m)]).length = cl.length + 1 from by simp] at hv'
      subst hv'
      go_wp2
      go_roundw
      case rel =>
        exact ⟨k + 1, lo + f + m - lo + 1, cl ++ [(lo + f, lo + f + m)], _, s2, by omega, by go_num, rfl, by omega, by omega, by have := HL.out; simp; omega, H3.out, HO3.out, G3.out, HF2.out⟩
      case measure => simp [intOf]; omega
    · have hkn : k = n := by omega
      subst hkn
      have hkl := HL.out
      obtain ⟨av, cv', hv⟩ := own_shape HO.out
      subst hv
      go_wp2
      go_end0
      refine ⟨av, cv', cl, st', rfl, HT.out, HO.out, by omega, HG.out, fun β K => ?_⟩
      have := HF.out β K
      rw [Nat.sub_self] at this; exact this

end Go.Proofs.YtkkmoplijicmpabDoor
