import Derived.Test.YtlagadpfnkidjabDoorSmH
import Derived.Test.YtlagadpfnkidjabDoorCut
import Derived.Test.YtlagadpfnkidjabDoorBackMath
namespace Go.Proofs.YtlagadpfnkidjabDoor
open Go.RowKit

set_option maxRecDepth 100000 in
set_option maxHeartbeats 8000000 in
theorem sback_any (s : Sg) (hv tv dv cv : Value) (hx tx : List Xr) (a' : Option Addr) (ms : List Int) (len' cap' : Nat) (w : World) (hs : SIn w s hv tv dv cv hx tx) (hT : Tab w) (hb' : Bytey ms) (hl' : ms.length = len') (hlc' : len' ≤ cap') (hm' : cap' ≤ 1048576) (hc' : Lies .u8 w a' ms) (hn' : a' = none → len' = 0 ∧ cap' = 0) :
    Calls Tryd.prog 5 #[.agg (svC s hv tv dv cv), .slice a' len' cap'] w (CutPost w) := by
  obtain ⟨ah, ch, rfl, _⟩ := hs.head.shape
  obtain ⟨at', ct, rfl, _⟩ := hs.tail.shape
  obtain ⟨ad, cd, rfl, _⟩ := hs.data.shape
  obtain ⟨ac, cc, rfl, _⟩ := hs.clm.shape
  have hw0 : 0 < w.heap.size := World.block_lt_of_cell? w ⟨0, 0, none⟩ (hT 0 (by omega))
  have HT : Hid (Tab w) := hT
  have HS : Hid (SIn w s (.slice ah hx.length ch) (.slice at' tx.length ct) (.slice ad s.data.length cd) (.slice ac s.clm.length cc) hx tx) := hs
  have HBM : Hid (Bytey ms ∧ ms.length = len' ∧ Lies .u8 w a' ms ∧ (a' = none → len' = 0 ∧ cap' = 0)) := ⟨hb', hl', hc', hn'⟩
  have hb0 : Below w.heap.size w (w.alloc (svO s (.slice ah hx.length ch) (.slice at' tx.length ct) (.slice ad s.data.length cd) (.slice ac s.clm.length cc))) := (Below.refl _ _).alloc (Nat.le_refl _) _
  have HB0 : Hid (Below w.heap.size w (w.alloc (svO s (.slice ah hx.length ch) (.slice at' tx.length ct) (.slice ad s.data.length cd) (.slice ac s.clm.length cc)))) := hb0
  clear hT hs hb' hl' hc' hn' hb0
  go_enter Tryd.func5, Tryd.ntmps5
  go_wp2_with fail
  refine (awake_any _ (HT.out.below HB0.out hw0)).mono ?_
  rintro e w1 ⟨rfl, hb1⟩
  have HB1 : Hid (Below w.heap.size w w1) := HB0.out.trans (hb1.mono HB0.out.size)
  have HX1 : Hid (w1.heap[w.heap.size]? = some (svO s (.slice ah hx.length ch) (.slice at' tx.length ct) (.slice ad s.data.length cd) (.slice ac s.clm.length cc))) := (hb1.block _ (by simp)).trans (heap_alloc_new' w _)
  have hcx := fun j => cell_of_row _ w.heap.size j _ _ _ HX1.out
  have q0 := hcx 0
  have q1 := hcx 1
  have q2 := hcx 2
  have q3 := hcx 3
  have q4 := hcx 4
  have q5 := hcx 5
  have q6 := hcx 6
  have q7 := hcx 7
  have q8 := hcx 8
  have q9 := hcx 9
  have q10 := hcx 10
  have q11 := hcx 11
  have q12 := hcx 12
  have q13 := hcx 13
  simp only [List.getElem?_toArray, List.getElem?_cons_succ, List.getElem?_cons_zero] at q0 q1 q2 q3 q4 q5 q6 q7 q8 q9 q10 q11 q12 q13
  clear hb1 hcx HB0
  go_wp2_with fail
  refine (print_any s _ _ _ _ hx tx w1 (HS.out.below HB1.out) (HT.out.below HB1.out hw0)).mono ?_
  rintro e w2 ⟨ap, cp, rfl, hown, hb2⟩
  have HB2 : Hid (Below w.heap.size w w2) := HB1.out.trans (hb2.mono HB1.out.size)
  have HX2 : Hid (w2.heap[w.heap.size]? = some (svO s (.slice ah hx.length ch) (.slice at' tx.length ct) (.slice ad s.data.length cd) (.slice ac s.clm.length cc))) := (hb2.block _ (Array.getElem?_eq_some_iff.mp HX1.out).1).trans HX1.out
  obtain ⟨ob1, ob2, ob3⟩ := own_bounds hown
  have HLI : Hid (Lies .u8 w2 ap (prt s hx tx).2) := (own_lies hown).1
  have HO3 : Hid (ap = none → (prt s hx tx).2.length = 0 ∧ cp = 0) := ob3
  have HBY : Hid (Bytey (prt s hx tx).2) := prt_bytes s hx tx HS.out.headEq HS.out.tailEq HS.out.data.bytes (fun x hx => (HS.out.head.data x hx).bytes) (fun x hx => (HS.out.tail.data x hx).bytes)
  have HCM : Hid ((prt s hx tx).1 = 0 → prs (prt s hx tx).2 = (0, s)) := fun h => (cut_math s hx tx HS.out.headEq HS.out.tailEq h).2.2.1
  clear hown hb2 HB1 HX1 ob3 q0 q1 q2 q3 q4 q5 q6 q7 q8 q9 q10 q11 q12 q13
  generalize (prt s hx tx).2 = L at *
  generalize (prt s hx tx).1 = E at *
  go_wp2_with fail
  refine (parse_any ap L L.length cp w2 HBY.out rfl ob1 ob2 HLI.out HO3.out (HT.out.below HB2.out hw0)).mono ?_
  rintro e w3 ⟨hv3, tv3, dv3, cv3, hx3, tx3, B1, B2, rfl, hso, hb3⟩
  have HB3 : Hid (Below w.heap.size w w3) := HB2.out.trans (hb3.mono HB2.out.size)
  have hX3 : w3.heap[w.heap.size]? = some (svO s (.slice ah hx.length ch) (.slice at' tx.length ct) (.slice ad s.data.length cd) (.slice ac s.clm.length cc)) := (hb3.block _ (Array.getElem?_eq_some_iff.mp HX2.out).1).trans HX2.out
  have HS3 : Hid (SIn w3 (prs L).2 hv3 tv3 dv3 cv3 hx3 tx3) := hso.sin
  obtain ⟨a1, c1, rfl⟩ := own_shape hso.head.row
  obtain ⟨a2, c2, rfl⟩ := own_shape hso.tail.row
  obtain ⟨a3, c3, rfl⟩ := own_shape hso.clm
  obtain ⟨a4, c4, rfl⟩ := own_shape hso.data
  have HCM2 : Hid (E = 0 → (prs L).1 = 0 ∧ s = (prs L).2) := fun h => by rw [HCM.out h]; exact ⟨rfl, rfl⟩
  simp only [sv]
  clear hso hb3 HCM HLI HO3 HBY HX2
  generalize (prs L).2 = t at *
  generalize (prs L).1 = F at *
  have HBA : Hid (Below w3.heap.size w3 (w3.alloc (svO t (.slice a1 hx3.length c1) (.slice a2 tx3.length c2) (.slice a4 t.data.length c4) (.slice a3 t.clm.length c3)))) := (Below.refl _ _).alloc (Nat.le_refl _) _
  have HB4 : Hid (Below w.heap.size w (w3.alloc (svO t (.slice a1 hx3.length c1) (.slice a2 tx3.length c2) (.slice a4 t.data.length c4) (.slice a3 t.clm.length c3)))) := HB3.out.trans (HBA.out.mono HB3.out.size)
  have hsm := same_gen s t _ _ _ _ _ _ _ _ hx tx hx3 tx3 (w3.alloc (svO t (.slice a1 hx3.length c1) (.slice a2 tx3.length c2) (.slice a4 t.data.length c4) (.slice a3 t.clm.length c3))) (HS.out.below HB4.out) (HS3.out.below HBA.out)
  have hcx := fun j => cell_of_row _ w.heap.size j _ _ _ ((HBA.out.block _ (Array.getElem?_eq_some_iff.mp hX3).1).trans hX3)
  have q0 := hcx 0
  have q1 := hcx 1
  have q2 := hcx 2
  have q3 := hcx 3
  have q4 := hcx 4
  have q5 := hcx 5
  have q6 := hcx 6
  have q7 := hcx 7
  have q8 := hcx 8
  have q9 := hcx 9
  have q10 := hcx 10
  have q11 := hcx 11
  have q12 := hcx 12
  have q13 := hcx 13
  simp only [List.getElem?_toArray, List.getElem?_cons_succ, List.getElem?_cons_zero] at q0 q1 q2 q3 q4 q5 q6 q7 q8 q9 q10 q11 q12 q13
  clear hcx hX3 HBA HS3 HB3
  go_wp2_with fail
  refine hsm.mono ?_
  rintro e w5 ⟨qs, rfl, hqs, hb5⟩
  have HQS : Hid (E = 0 → F = 0 ∧ qs = true) := fun h => ⟨(HCM2.out h).1, hqs (HCM2.out h).2⟩
  have HB5 : Hid (Below w.heap.size w w5) := HB4.out.trans (hb5.mono HB4.out.size)
  clear hsm hqs hb5 HCM2 HB4 q0 q1 q2 q3 q4 q5 q6 q7 q8 q9 q10 q11 q12 q13
  go_wp2_with fail
  refine (parse_any a' ms len' cap' w5 HBM.out.1 HBM.out.2.1 hlc' (by omega) (HBM.out.2.2.1.below HB5.out) HBM.out.2.2.2 (HT.out.below HB5.out hw0)).mono ?_
  rintro e w6 ⟨hv6, tv6, dv6, cv6, hx6, tx6, B16, B26, rfl, hso6, hb6⟩
  have HB6 : Hid (Below w.heap.size w w6) := HB5.out.trans (hb6.mono HB5.out.size)
  have HS6 : Hid (SIn w6 (prs ms).2 hv6 tv6 dv6 cv6 hx6 tx6) := hso6.sin
  have HBK : Hid ((prs ms).1 = 0 → prt (prs ms).2 hx6 tx6 = (0, ms)) := fun h => back_math ms HBM.out.1 h hx6 tx6 hso6.headEq hso6.tailEq
  obtain ⟨a16, c16, rfl⟩ := own_shape hso6.head.row
  obtain ⟨a26, c26, rfl⟩ := own_shape hso6.tail.row
  obtain ⟨a36, c36, rfl⟩ := own_shape hso6.clm
  obtain ⟨a46, c46, rfl⟩ := own_shape hso6.data
  simp only [sv]
  clear hso6 hb6 HB5
  generalize (prs ms).2 = x at *
  generalize (prs ms).1 = G at *
  have HBA : Hid (Below w6.heap.size w6 (w6.alloc (svO x (.slice a16 hx6.length c16) (.slice a26 tx6.length c26) (.slice a46 x.data.length c46) (.slice a36 x.clm.length c36)))) := (Below.refl _ _).alloc (Nat.le_refl _) _
  have HB7 : Hid (Below w.heap.size w (w6.alloc (svO x (.slice a16 hx6.length c16) (.slice a26 tx6.length c26) (.slice a46 x.data.length c46) (.slice a36 x.clm.length c36)))) := HB6.out.trans (HBA.out.mono HB6.out.size)
  have hpr := print_any x _ _ _ _ hx6 tx6 (w6.alloc (svO x (.slice a16 hx6.length c16) (.slice a26 tx6.length c26) (.slice a46 x.data.length c46) (.slice a36 x.clm.length c36))) (HS6.out.below HBA.out) (HT.out.below HB7.out hw0)
  clear HS6 HBA HB6
  go_wp2_with fail
  refine hpr.mono ?_
  rintro e w8 ⟨a8, c8, rfl, hown8, hb8⟩
  have HB8 : Hid (Below w.heap.size w w8) := HB7.out.trans (hb8.mono HB7.out.size)
  have k1 := conv_any w8 a8 _ c8 _ rfl (own_lies hown8).1
  have k2 := conv_any w8 a' len' cap' ms HBM.out.2.1 (HBM.out.2.2.1.below HB8.out)
  have HST : Hid (G = 0 → (prt x hx6 tx6).1 = 0 ∧ strOfNums (prt x hx6 tx6).2 = strOfNums ms) := fun h => by rw [HBK.out h]; exact ⟨rfl, rfl⟩
  clear hpr hown8 hb8 HB7 HBK
  generalize strOfNums (prt x hx6 tx6).2 = S1 at *
  generalize strOfNums ms = S2 at *
  generalize (prt x hx6 tx6).2 = M at *
  generalize (prt x hx6 tx6).1 = H at *
  by_cases hG : G = 0
  · obtain ⟨rfl, rfl⟩ := HST.out hG
    subst hG
    clear HST
    by_cases hE : E = 0
    · obtain ⟨rfl, rfl⟩ := HQS.out hE
      subst hE
      clear HQS
      go_wp2
      go_ret
      exact ⟨rfl, HB8.out⟩
    · have hE' : (E == 0) = false := by simp [hE]
      clear HQS
      go_wp2
      go_ret
      exact ⟨rfl, HB8.out⟩
  · have hG' : (G != 0) = true := by simp [hG]
    clear HST
    by_cases hE : E = 0
    · obtain ⟨rfl, rfl⟩ := HQS.out hE
      subst hE
      clear HQS
      go_wp2
      go_ret
      exact ⟨rfl, HB8.out⟩
    · have hE' : (E == 0) = false := by simp [hE]
      clear HQS
      go_wp2
      go_ret
      exact ⟨rfl, HB8.out⟩

end Go.Proofs.YtlagadpfnkidjabDoor
