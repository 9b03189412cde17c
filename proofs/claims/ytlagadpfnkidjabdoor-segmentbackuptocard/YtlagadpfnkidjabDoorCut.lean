import Derived.Test.YtlagadpfnkidjabDoorAwake2
import Derived.Test.YtlagadpfnkidjabDoorLayMath
import Derived.Test.YtlagadpfnkidjabDoorFirst
namespace Go.Proofs.YtlagadpfnkidjabDoor
open Go.RowKit

theorem bytey_cons {a : Int} {l : List Int} (h : 0 ≤ a ∧ a ≤ 255) (hl : Bytey l) : Bytey (a :: l) := fun z hz => (List.mem_cons.mp hz).elim (fun e => by rw [e]; exact h) (hl z)
theorem bytey_nil : Bytey [] := fun _ h => by cases h
theorem encXs_bytes (xs : List Xr) (h : XsIn xs) (hd : ∀ x ∈ xs, Bytey x.data) : Bytey (encXs (xs.map Xr.ex)) := by
  induction xs with
  | nil => exact bytey_nil
  | cons x l ih =>
    have e : encXs ((x :: l).map Xr.ex) = x.tag :: (enc (x.data.length : Int) ++ (x.data ++ encXs (l.map Xr.ex))) := by simp [encXs, encX, Xr.ex]
    rw [e]
    have h1 := h x (by simp)
    exact bytey_cons ⟨h1.1, h1.2.1⟩ (bytey_append (enc_bytes _) (bytey_append (hd x (by simp)) (ih (fun y hy => h y (by simp [hy])) (fun y hy => hd y (by simp [hy])))))
theorem conB_bytes {h : Int} {s : Sg} {hx tx : List Xr} (hw : Wr h s hx tx) (hd : Bytey s.data) : Bytey (conB h s) := by
  unfold conB
  split
  · unfold blkB
    refine bytey_append (jn_bytes _) (bytey_append ?_ hd)
    split
    · exact jn_bytes _
    · exact bytey_nil
  · split
    · unfold repB
      refine bytey_append (jn_bytes _) ?_
      intro z hz
      unfold clmB at hz
      obtain ⟨p, _, hp⟩ := List.mem_flatMap.mp hz
      exact jn_bytes _ z hp
    · split
      · exact jn_bytes _
      · split
        · exact bytey_cons hw.rsn bytey_nil
        · exact bytey_nil
theorem prt_bytes (s : Sg) (hx tx : List Xr) (he : s.head = hx.map Xr.ex) (te : s.tail = tx.map Xr.ex) (hd : Bytey s.data) (h1 : ∀ x ∈ hx, Bytey x.data) (h2 : ∀ x ∈ tx, Bytey x.data) : Bytey (prt s hx tx).2 := by
  unfold prt
  split
  · exact bytey_nil
  · rename_i ho
    split
    · exact bytey_nil
    · rename_i hm
      split
      · exact bytey_nil
      · have hw := wr_of (Decidable.not_not.mp ho) (by simpa using hm)
        have e1 : s.head.length = hx.length := by rw [he, List.length_map]
        have e2 : s.tail.length = tx.length := by rw [te, List.length_map]
        have g1 := hw.headL
        have g2 := hw.tailL
        have g3 := hw.typ
        unfold layB
        refine bytey_cons (by omega) (bytey_append (jn_bytes _) (bytey_cons (by omega) (bytey_append ?_ (bytey_append (conB_bytes hw hd) ?_))))
        · rw [he]; exact encXs_bytes hx hw.head h1
        · rw [te]; exact encXs_bytes tx hw.tail h2

def CutPost (w : World) (e : Ending) (w' : World) : Prop := e = .returned (.bool true) ∧ Below w.heap.size w w'

set_option maxRecDepth 100000 in
set_option maxHeartbeats 8000000 in
theorem cut_any (s : Sg) (hv tv dv cv : Value) (hx tx : List Xr) (n : Int) (a' : Option Addr) (ms : List Int) (len' cap' : Nat) (w : World) (hs : SIn w s hv tv dv cv hx tx) (hT : Tab w) (hn0 : -9223372036854775808 ≤ n) (hn1 : n ≤ 9223372036854775807) (hb' : Bytey ms) (hl' : ms.length = len') (hlc' : len' ≤ cap') (hm' : cap' ≤ 1048576) (hc' : Lies .u8 w a' ms) (hn' : a' = none → len' = 0 ∧ cap' = 0) :
    Calls Tryd.prog 6 #[.agg (svC s hv tv dv cv), .int .i64 n, .slice a' len' cap'] w (CutPost w) := by
  obtain ⟨ah, ch, rfl, _⟩ := hs.head.shape
  obtain ⟨at', ct, rfl, _⟩ := hs.tail.shape
  obtain ⟨ad, cd, rfl, _⟩ := hs.data.shape
  obtain ⟨ac, cc, rfl, _⟩ := hs.clm.shape
  obtain ⟨i0, hi, hz0, hz1, hz2⟩ := info_parts Tryd.info_u8
  have hw0 : 0 < w.heap.size := World.block_lt_of_cell? w ⟨0, 0, none⟩ (hT 0 (by omega))
  have HT : Hid (Tab w) := hT
  have HS : Hid (SIn w s (.slice ah hx.length ch) (.slice at' tx.length ct) (.slice ad s.data.length cd) (.slice ac s.clm.length cc) hx tx) := hs
  have HBM : Hid (Bytey ms ∧ ms.length = len' ∧ Lies .u8 w a' ms ∧ (a' = none → len' = 0 ∧ cap' = 0)) := ⟨hb', hl', hc', hn'⟩
  have hb0 : Below w.heap.size w (w.alloc (svO s (.slice ah hx.length ch) (.slice at' tx.length ct) (.slice ad s.data.length cd) (.slice ac s.clm.length cc))) := (Below.refl _ _).alloc (Nat.le_refl _) _
  have HB0 : Hid (Below w.heap.size w (w.alloc (svO s (.slice ah hx.length ch) (.slice at' tx.length ct) (.slice ad s.data.length cd) (.slice ac s.clm.length cc)))) := hb0
  clear hT hs hb' hl' hc' hn' hb0
  go_enter Tryd.func6, Tryd.ntmps6
  go_wp2_with fail
  refine (awake_any _ (HT.out.below HB0.out hw0)).mono ?_
  rintro e w1 ⟨rfl, hb1⟩
  have HB1 : Hid (Below w.heap.size w w1) := HB0.out.trans (hb1.mono HB0.out.size)
  have hcx := fun j => (hb1.cell (p := ⟨w.heap.size, j, none⟩) (by simp)).trans (cell_of_row _ w.heap.size j _ _ _ (heap_alloc_new' w (svO s (.slice ah hx.length ch) (.slice at' tx.length ct) (.slice ad s.data.length cd) (.slice ac s.clm.length cc))))
  have q0 := hcx 0
  have q1 := hcx 1
  have q2 := hcx 2
  have q3 := hcx 3
  have q4 := hcx 4
  have q5 := hcx 5
  have q6 := hcx 6
  have q7 := hcx 7
  have q8 := hcx 8
  have q9 := hcx 9
  have q10 := hcx 10
  have q11 := hcx 11
  have q12 := hcx 12
  have q13 := hcx 13
  simp only [List.getElem?_toArray, List.getElem?_cons_succ, List.getElem?_cons_zero] at q0 q1 q2 q3 q4 q5 q6 q7 q8 q9 q10 q11 q12 q13
  clear hb1 hcx HB0
  go_wp2_with fail
  refine (print_any s _ _ _ _ hx tx w1 (HS.out.below HB1.out) (HT.out.below HB1.out hw0)).mono ?_
  rintro e w2 ⟨ap, cp, rfl, hown, hb2⟩
  have HB2 : Hid (Below w.heap.size w w2) := HB1.out.trans (hb2.mono HB1.out.size)
  have HO2 : Hid (w2.ownsRow w1.heap.size 5 1 (.slice ap (prt s hx tx).2.length cp) (prt s hx tx).2.length ((prt s hx tx).2.map (Value.int .u8))) := hown
  clear hown hb2 HB1 q0 q1 q2 q3 q4 q5 q6 q7 q8 q9 q10 q11 q12 q13
  by_cases hE : (prt s hx tx).1 = 0
  · have hcm := cut_math s hx tx HS.out.headEq HS.out.tailEq hE
    rw [hE]
    generalize hL : (prt s hx tx).2 = L at *
    obtain ⟨l4, l8, hp0, hpk, hpm⟩ := hcm
    have HPK : Hid (∀ k, k < L.length → (prs (L.take k)).1 = 20) := hpk
    have HPM : Hid (∀ more : List Int, more ≠ [] → (prs (L ++ more)).1 = 24 ∨ ((prs (L ++ more)).1 = 2 ∧ 8192 < (L ++ more).length)) := hpm
    have HP0 : Hid (prs L = (0, s)) := hp0
    obtain ⟨ob1, ob2, ob3⟩ := own_bounds HO2.out
    have hol := own_lies HO2.out
    have HLI : Hid (Lies .u8 w2 ap L) := hol.1
    have HBY : Hid (Bytey L) := by
      have := prt_bytes s hx tx HS.out.headEq HS.out.tailEq HS.out.data.bytes (fun x hx => (HS.out.head.data x hx).bytes) (fun x hx => (HS.out.tail.data x hx).bytes)
      rw [hL] at this; exact this
    obtain ⟨gp, hap⟩ : ∃ x, ap = some x := by
      cases ap with
      | none => have := ob3 rfl; omega
      | some x => exact ⟨x, rfl⟩
    subst hap
    have hl4 : ¬ (L.length : Int) < 4 := by omega
    obtain ⟨k, hk, hkl⟩ : ∃ k : Nat, max 0 n % (L.length : Int) = k ∧ k < L.length := by
      have h1 := Int.emod_nonneg (max 0 n) (show (L.length : Int) ≠ 0 by omega)
      have h2 := Int.emod_lt_of_pos (max 0 n) (show (0 : Int) < (L.length : Int) by omega)
      exact ⟨(max 0 n % (L.length : Int)).toNat, by omega, by omega⟩
    have hkc : (k : Int) ≤ (cp : Int) := by omega
    have hk20 := hpk k hkl
    have HK20 : Hid ((prs (L.take k)).1 = 20) := hk20
    have HLk : Hid ((L.take k).length = k) := by unfold Hid; rw [List.length_take]; omega
    clear hpk hpm hp0 hol ob3 hL hk20
    go_wp2_with fail
    refine (parse_any (some gp) (L.take k) k cp w2 (take_bytey HBY.out k) HLk.out (by omega) ob2 (take_lies HLI.out k) (fun h => by cases h) (HT.out.below HB2.out hw0)).mono ?_
    rintro e w3 ⟨hv, tv, dv, cv, hx3, tx3, B1, B2, rfl, hso, hb3⟩
    obtain ⟨a1, c1, rfl⟩ := own_shape hso.head.row
    obtain ⟨a2, c2, rfl⟩ := own_shape hso.tail.row
    obtain ⟨a3, c3, rfl⟩ := own_shape hso.clm
    obtain ⟨a4, c4, rfl⟩ := own_shape hso.data
    have HB3 : Hid (Below w.heap.size w w3) := HB2.out.trans (hb3.mono HB2.out.size)
    have HLI3 : Hid (Lies .u8 w3 (some gp) L) := HLI.out.below hb3
    rw [HK20.out]
    simp only [sv]
    clear hso hb3
    generalize (prs (L.take k)).2 = S3 at *
    have HB3a : Hid (Below w.heap.size w (w3.alloc (svO S3 (.slice a1 hx3.length c1) (.slice a2 tx3.length c2) (.slice a4 S3.data.length c4) (.slice a3 S3.clm.length c3)))) := HB3.out.alloc HB3.out.size _
    have HLI4 : Hid (Lies .u8 (w3.alloc (svO S3 (.slice a1 hx3.length c1) (.slice a2 tx3.length c2) (.slice a4 S3.data.length c4) (.slice a3 S3.clm.length c3))) (some gp) L) := HLI3.out.below ((Below.refl _ _).alloc (Nat.le_refl _) _)
    go_wp2_with (first
      | (at_builtin; refine append_any (w3.alloc (svO S3 (.slice a1 hx3.length c1) (.slice a2 tx3.length c2) (.slice a4 S3.data.length c4) (.slice a3 S3.clm.length c3))) rfl _ _ 25 rfl (w3.heap.size + 1) 5 i0 (.int .u8 0) 1 Tryd.underlying25 hi hz0 hz1 hz2 rfl _ _ _ rfl (World.ownsRow_nil _ _ _ _) .u8 (some gp) L.length cp L rfl (fun h => by cases h) rfl HLI4.out (by unfold maxLen; omega) (by omega) (by simp) ?_))
    intro l1 w4 hown4 hgr4
    have hb4 : Below (w3.heap.size + 1) (w3.alloc (svO S3 (.slice a1 hx3.length c1) (.slice a2 tx3.length c2) (.slice a4 S3.data.length c4) (.slice a3 S3.clm.length c3))) w4 := own_grown (Below.refl _ _) hgr4 (World.ownsRow_nil _ _ 5 1) (by simp)
    have HO4 : Hid (w4.ownsRow (w3.heap.size + 1) 5 1 l1 L.length (L.map (Value.int .u8))) := hown4
    have HB4 : Hid (Below w.heap.size w w4) := HB3a.out.trans (hb4.mono (by have := HB3.out.size; omega))
    have hs4 : w3.heap.size + 1 ≤ w4.heap.size := by have := hb4.size; simpa using this
    have hml : len' ≤ 1048576 := by omega
    clear hown4 hgr4 hb4 HLI4 HB3a HLI3 HLI
    go_wp2_with (at_builtin; refine append_any _ rfl _ _ 25 rfl (w3.heap.size + 1) 5 i0 (.int .u8 0) 1 Tryd.underlying25 hi hz0 hz1 hz2 rfl _ _ _ rfl HO4.out .u8 a' len' cap' ms rfl HBM.out.2.2.2 HBM.out.2.1 (HBM.out.2.2.1.below HB4.out) (by unfold maxLen; omega) (by omega) hs4 ?_)
    intro l2 w5 hown5 hgr5
    have HO5 : Hid (w5.ownsRow (w3.heap.size + 1) 5 1 l2 (L.length + len') ((L ++ ms).map (Value.int .u8))) := by
      unfold Hid; rw [List.map_append]; exact hown5
    have HB5 : Hid (Below w.heap.size w w5) := HB4.out.trans ((own_grown (Below.refl _ _) hgr5 HO4.out hs4).mono (by have := HB3.out.size; omega))
    clear hown5 hgr5 HO4 HB4
    obtain ⟨al, cl, rfl⟩ := own_shape HO5.out
    obtain ⟨oc1, oc2, oc3⟩ := own_bounds HO5.out
    have hol := own_lies HO5.out
    have HLO : Hid (Lies .u8 w5 al (L ++ ms)) := hol.1
    have HLL : Hid ((L ++ ms).length = L.length + len') := hol.2
    have HN5 : Hid (al = none → L.length + len' = 0 ∧ cl = 0) := oc3
    clear hol oc3
    go_wp2_with fail
    refine (parse_any al (L ++ ms) (L.length + len') cl w5 (bytey_append HBY.out HBM.out.1) HLL.out oc1 oc2 HLO.out HN5.out (HT.out.below HB5.out hw0)).mono ?_
    rintro e w6 ⟨hv6, tv6, dv6, cv6, hx6, tx6, B16, B26, rfl, hso6, hb6⟩
    obtain ⟨a16, c16, rfl⟩ := own_shape hso6.head.row
    obtain ⟨a26, c26, rfl⟩ := own_shape hso6.tail.row
    obtain ⟨a36, c36, rfl⟩ := own_shape hso6.clm
    obtain ⟨a46, c46, rfl⟩ := own_shape hso6.data
    have HB6 : Hid (Below w.heap.size w w6) := HB5.out.trans (hb6.mono HB5.out.size)
    have HLL2 := HLL.out
    by_cases hml0 : len' = 0
    · have hms : ms = [] := List.eq_nil_of_length_eq_zero (by have := HBM.out.2.1; omega)
      have hg : (prs (L ++ ms)).1 = 0 := by rw [hms, List.append_nil, HP0.out]
      have hz' : ((len' : Int) == 0) = true := by simp [hml0]
      rw [hg]
      simp only [sv]
      clear hso6 hb6 HB5 HLO HLL HLL2 HO5 hg HPM HPK HP0
      subst hml0
      go_wp2
      go_ret
      exact ⟨rfl, HB6.out.alloc HB6.out.size _⟩
    · have hms : ms ≠ [] := fun h => hml0 (by have := HBM.out.2.1; rw [h] at this; simpa using this.symm)
      have hz' : ((len' : Int) == 0) = false := beq_eq_false_iff_ne.mpr (by omega)
      rcases HPM.out ms hms with hg | ⟨hg, hg8⟩
      · rw [hg]
        simp only [sv]
        clear hso6 hb6 HB5 HLO HLL HLL2 HO5 hg HPM HPK HP0
        go_wp2
        go_ret
        exact ⟨rfl, HB6.out.alloc HB6.out.size _⟩
      · rw [hg]
        rw [HLL2] at hg8
        have hg9 : (8192 : Int) < (L.length : Int) + (len' : Int) := by omega
        simp only [sv]
        clear hso6 hb6 HB5 HLO HLL HLL2 HO5 hg HPM HPK HP0
        go_wp2
        go_ret
        exact ⟨rfl, HB6.out.alloc HB6.out.size _⟩
  · have hne : ((prt s hx tx).1 != 0) = true := by simp [hE]
    clear hE
    go_wp2
    go_ret
    exact ⟨rfl, HB2.out⟩

end Go.Proofs.YtlagadpfnkidjabDoor
