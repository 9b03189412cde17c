import Derived.Test.YtkkmoplijicmpabDoorSmp
namespace Go.Proofs.YtkkmoplijicmpabDoor
open Go.RowKit

theorem lies_own {w w' : World} {base n g c : Nat} {xs : List Int} (h : w.ownsRow base 5 1 (.slice (some ⟨g, 0, none⟩) n c) n (xs.map (Value.int .u8))) (hb : Below w.heap.size w w') : Lies .u8 w' (some ⟨g, 0, none⟩) xs ∧ xs.length = n := own_lies (own_below h hb)

/-- The lists of the parsed example. -/
theorem smp_shapes {w : World} {base : Nat} {hv tv dv cv : Value} {hx tx : List Xr} {B1 B2 : Nat} (h : SOwn w base smp hv tv dv cv hx tx B1 B2) :
    ∃ a1 a2 a3 c1 c2 c3 g cd, hv = .slice a1 0 c1 ∧ tv = .slice a2 0 c2 ∧ cv = .slice a3 0 c3 ∧ dv = .slice (some ⟨g, 0, none⟩) 2 cd ∧ w.ownsRow B1 5 1 (.slice (some ⟨g, 0, none⟩) 2 cd) 2 ([9, 9].map (Value.int .u8)) := by
  have e1 : hx = [] := by have := h.headEq; simp [smp] at this; exact this
  have e2 : tx = [] := by have := h.tailEq; simp [smp] at this; exact this
  subst e1 e2
  obtain ⟨a1, c1, r1⟩ := own_shape h.head.row
  obtain ⟨a2, c2, r2⟩ := own_shape h.tail.row
  obtain ⟨a3, c3, r3⟩ := own_shape h.clm
  have hd := h.data
  obtain ⟨_, ⟨_, h0⟩ | ⟨g, cd, cur, hvv, r⟩⟩ := id hd
  · cases h0
  · refine ⟨a1, a2, a3, c1, c2, c3, g, cd, r1, r2, r3, hvv, ?_⟩
    rw [hvv] at hd; exact hd

set_option maxRecDepth 100000 in
set_option maxHeartbeats 4000000 in
theorem awake_any (w : World) (hT : Tab w) : Calls Tryd.prog 8 #[] w fun e w' => e = .returned (.bool true) ∧ Below w.heap.size w w' := by
  have hw0 : 0 < w.heap.size := World.block_lt_of_cell? w ⟨0, 0, none⟩ (hT 0 (by omega))
  have HT : Hid (Tab w) := hT
  clear hT
  go_enter Tryd.func8, Tryd.ntmps8
  go_wp2_with fail
  refine (sample_any _).mono ?_
  rintro e w1 ⟨g1, rfl, hd1, hg1, hb1⟩
  have HBK1 : Hid (Blk .u8 w1 w.heap.size 5 wantB) := (show Blk .u8 (w.alloc wantO) w.heap.size 5 wantB from heap_alloc_new' _ _).below hb1 (by simp)
  have HB1 : Hid (Below w.heap.size w w1) := ((Below.refl _ _).alloc (Nat.le_refl _) _).trans (hb1.mono (by simp))
  have HD1 : Hid (Blk .u8 w1 g1 5 [9, 9]) := hd1
  clear hd1 hb1 hg1
  go_wp2_with fail
  refine (right_smp g1 _ HD1.out (HT.out.below HB1.out hw0)).mono ?_
  rintro e w2 ⟨rfl, hb2⟩
  have HBK2 : Hid (Blk .u8 w2 w.heap.size 5 wantB) := HBK1.out.below hb2 HBK1.out.lt
  have HB2 : Hid (Below w.heap.size w w2) := HB1.out.trans (hb2.mono HB1.out.size)
  clear hb2 HBK1 HB1 HD1
  go_wp2_with fail
  refine (sample_any _).mono ?_
  rintro e w3 ⟨g3, rfl, hd3, hg3, hb3⟩
  have HBK3 : Hid (Blk .u8 w3 w.heap.size 5 wantB) := HBK2.out.below hb3 HBK2.out.lt
  have HB3 : Hid (Below w.heap.size w w3) := HB2.out.trans (hb3.mono HB2.out.size)
  have HD3 : Hid (Blk .u8 w3 g3 5 [9, 9]) := hd3
  clear hd3 hb3 hg3 HBK2 HB2
  go_wp2_with fail
  refine (print_smp g3 _ HD3.out (HT.out.below HB3.out hw0)).mono ?_
  rintro e w4 ⟨gp, cp, rfl, hownp, hb4⟩
  have HBK4 : Hid (Blk .u8 w4 w.heap.size 5 wantB) := HBK3.out.below hb4 HBK3.out.lt
  have HB4 : Hid (Below w.heap.size w w4) := HB3.out.trans (hb4.mono HB3.out.size)
  have HP4 : Hid (w4.ownsRow w3.heap.size 5 1 (.slice (some ⟨gp, 0, none⟩) 11 cp) 11 (wantB.map (Value.int .u8))) := hownp
  clear hownp hb4 HBK3 HB3 HD3
  go_wp2_with fail
  refine (parse_any (some ⟨w.heap.size, 0, none⟩) wantB 11 11 w4 (by intro z hz; simp [wantB] at hz; omega) rfl (by omega) (by omega) (HBK4.out.lies 11) (fun h => by cases h) (HT.out.below HB4.out hw0)).mono ?_
  rintro e w5 ⟨hv, tv, dv, cv, hx, tx, B1, B2, rfl, hso, hb5⟩
  rw [prs_want.1]
  rw [prs_want.2] at hso ⊢
  obtain ⟨a1, a2, a3, c1, c2, c3, g5, cd, rfl, rfl, rfl, rfl, hown5⟩ := smp_shapes hso
  have HBK5 : Hid (Blk .u8 w5 w.heap.size 5 wantB) := HBK4.out.below hb5 HBK4.out.lt
  have HB5 : Hid (Below w.heap.size w w5) := HB4.out.trans (hb5.mono HB4.out.size)
  have HP5 : Hid (w5.ownsRow w3.heap.size 5 1 (.slice (some ⟨gp, 0, none⟩) 11 cp) 11 (wantB.map (Value.int .u8))) := own_below HP4.out hb5
  have HO5 : Hid (w5.ownsRow B1 5 1 (.slice (some ⟨g5, 0, none⟩) 2 cd) 2 ([9, 9].map (Value.int .u8))) := hown5
  simp only [sv, smp]
  clear hso hb5 hown5 HBK4 HB4 HP4
  have hW6 : Below w5.heap.size w5 (w5.alloc (smpWO a1 a2 a3 c1 c2 c3 g5 cd)).drew := ((Below.refl _ _).alloc (Nat.le_refl _) _).drew
  have HL6 : Hid (Lies .u8 (w5.alloc (smpWO a1 a2 a3 c1 c2 c3 g5 cd)).drew (some ⟨g5, 0, none⟩) [9, 9]) := (lies_own HO5.out hW6).1
  have HX6 : Hid (Below w5.heap.size w5 (w5.alloc (smpWO a1 a2 a3 c1 c2 c3 g5 cd)).drew) := hW6
  have HR6 : Hid ((w5.alloc (smpWO a1 a2 a3 c1 c2 c3 g5 cd)).drew.heap[w5.heap.size]? = some (smpWO a1 a2 a3 c1 c2 c3 g5 cd)) := heap_alloc_new' _ _
  clear hW6
  go_wp2_with fail
  go_region_with (first
    | (go_at_call 21
       refine (sample_any _).mono ?_
       rintro e w7 ⟨g7, rfl, hd7, hg7, hb7⟩
       have hcx7 := fun j => cell_of_row w7 w5.heap.size j _ _ _ ((hb7.block w5.heap.size (by simp)).trans HR6.out)
       have q0 := hcx7 0
       have q1 := hcx7 1
       have q2 := hcx7 2
       have q3 := hcx7 3
       have q4 := hcx7 4
       have q5 := hcx7 5
       have q6 := hcx7 6
       have q7 := hcx7 7
       have q8 := hcx7 8
       have q9 := hcx7 9
       have q10 := hcx7 10
       have q11 := hcx7 11
       have q12 := hcx7 12
       have q13 := hcx7 13
       simp only [List.getElem?_toArray, List.getElem?_cons_succ, List.getElem?_cons_zero] at q0 q1 q2 q3 q4 q5 q6 q7 q8 q9 q10 q11 q12 q13
       have HD7 : Hid (Lies .u8 w7 (some ⟨g7, 0, none⟩) [9, 9]) := hd7.lies 2
       have HL7 : Hid (Lies .u8 w7 (some ⟨g5, 0, none⟩) [9, 9]) := HL6.out.below hb7
       have HX7 : Hid (Below w5.heap.size w5 w7) := HX6.out.trans (hb7.mono HX6.out.size)
       clear hd7 hg7 hb7 hcx7)
    | (go_at_call 19
       refine (same_smp a1 a2 a3 c1 c2 c3 g5 cd g7 _ HL7.out HD7.out).mono ?_
       rintro e w8 ⟨rfl, hb8⟩
       have HX8 : Hid (Below w5.heap.size w5 w8) := HX7.out.trans (hb8.mono HX7.out.size)
       clear hb8))
  all_goals
    have k1 := conv_any w8 _ 11 cp wantB rfl (lies_own HP5.out HX8.out).1
    have k2 := conv_any w8 _ 11 11 wantB rfl ((HBK5.out.below HX8.out HBK5.out.lt).lies 11)
    clear q0 q1 q2 q3 q4 q5 q6 q7 q8 q9 q10 q11 q12 q13
    go_wp2
    go_ret
    exact ⟨rfl, HB5.out.trans (HX8.out.mono HB5.out.size)⟩

end Go.Proofs.YtkkmoplijicmpabDoor
