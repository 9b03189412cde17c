import Derived.Test.YtdfdaambfihjaaaDoorLex29
import Derived.Test.YtdfdaambfihjaaaDoorParse
import Derived.Laws.OwnMore
namespace Go.Proofs.YtdfdaambfihjaaaDoor
open Go.RowKit

/-- The document's example. -/
def smp : Sg := ⟨3, 1, 5, [], [], 7, 0, [9, 9], 1, 0, 0, 0, [], 0⟩
/-- It, with its bytes in block g. -/
abbrev smpV (g : Nat) : Value := .agg #[.int .i64 3, .int .i64 1, .int .i64 5, .slice none 0 0, .slice none 0 0, .int .i64 7, .int .i64 0, .slice (some ⟨g, 0, none⟩) 2 2, .int .i64 1, .int .i64 0, .int .i64 0, .int .i64 0, .slice none 0 0, .int .i64 0]
abbrev smpO (g : Nat) : Obj := .cells #[.int .i64 3, .int .i64 1, .int .i64 5, .slice none 0 0, .slice none 0 0, .int .i64 7, .int .i64 0, .slice (some ⟨g, 0, none⟩) 2 2, .int .i64 1, .int .i64 0, .int .i64 0, .int .i64 0, .slice none 0 0, .int .i64 0] 37

set_option maxHeartbeats 1000000 in
theorem claims_smp (g : Nat) (w : World) : Calls Tryd.prog 78 #[smpV g] w fun e w' => e = .returned (.bool true) ∧ ∃ y, w' = ext w y := by
  go_enter Tryd.func78, Tryd.ntmps78
  go_wp2
  refine wp_loop_rounds 1 ?_
  rw [rounds_succ]
  go_wp2
  go_ret
  exact ⟨rfl, ⟨[smpO g], 0⟩, rfl⟩

theorem leastCheck7 (w : World) : Calls Tryd.prog 76 #[.int .u8 7] w fun e w' => e = .returned (.int .i64 1) ∧ w = w' := leastCheck_any 7 w
theorem leastReport7 (w : World) : Calls Tryd.prog 77 #[.int .u8 7] w fun e w' => e = .returned (.int .i64 0) ∧ w = w' := leastReport_any 7 w

set_option maxRecDepth 100000 in
set_option maxHeartbeats 4000000 in
theorem fields_smp (g : Nat) (w : World) : Calls Tryd.prog 67 #[smpV g, .int .u8 7] w fun e w' => e = .returned (.bool true) ∧ ∃ y, w' = ext w y := by
  go_enter Tryd.func67, Tryd.ntmps67
  go_wp2_with fail
  have hc : ∀ (x : Xt) (j : Nat), (ext (w.alloc (smpO g)) x).cell? ⟨w.heap.size, j, none⟩ = (w.alloc (smpO g)).cell? ⟨w.heap.size, j, none⟩ := fun x j => ext_cell _ x _ (by simp)
  refine wp_region_ext (by kernel_rfl) lex29 ?_
  simp only [List.append_eq, List.cons_append, List.nil_append]
  repeat (go_big_quiet_step (first
    | (go_at_call 73; exact ext_same (between_t _ _ _ _ (by decide)))
    | (go_at_call 74; exact ext_same (extsMayBe_nil _ _ _))
    | (go_at_call 75; exact ext_same (allow_t _ _ _ _ _ _ (by decide)))
    | (go_at_call 76; exact ext_same (leastCheck7 _))
    | (go_at_call 77; exact ext_same (leastReport7 _))
    | (go_at_call 78; exact ext_more (claims_smp g _))))
  refine wpQuiet_nil ?_
  intro w' hw'
  obtain ⟨x, hw''⟩ := hw'
  subst hw''
  go_wp2
  go_ret
  exact ⟨rfl, ⟨smpO g :: x.os, x.n⟩, rfl⟩

end Go.Proofs.YtdfdaambfihjaaaDoor

namespace Go.Proofs.YtdfdaambfihjaaaDoor
open Go.RowKit

theorem lt_of_heap {w : World} {g : Nat} {o : Obj} (h : w.heap[g]? = some o) : g < w.heap.size := by
  rcases Nat.lt_or_ge g w.heap.size with q | q
  · exact q
  · rw [Array.getElem?_eq_none q] at h; cases h

theorem jn702 : jn [7, 0, 2] = [7, 0, 2] := by decide
theorem jn10 : jn [1, 0] = [1, 0] := by decide
theorem jn15 : jn [1, 5] = [1, 5] := by decide
theorem smalls702 : Smalls [7, 0, 2] := by intro n hn; simp at hn; omega
theorem smalls10 : Smalls [1, 0] := by intro n hn; simp at hn; omega
theorem smalls15 : Smalls [1, 5] := by intro n hn; simp at hn; omega

theorem Grew.blk {w w' : World} {v v' : Value} {g : Nat} {k : IntKind} {t : TypeId} {xs : List Int} (h : Grew w w' v v') (hb : Blk k w g t xs) (hne : v.ownBlock ≠ some g) : Blk k w' g t xs ∧ v'.ownBlock ≠ some g :=
  ⟨hb.of_eq (h.grown.block g hb.lt (fun e => hne e.symm)), fun e => by
    rcases h.stays g e with e' | e'
    · exact hne e'
    · have := hb.lt; omega⟩

set_option maxHeartbeats 2000000 in
theorem putBlock_smp (v : Value) (m : Nat) (xs : List Value) (base gd : Nat) (w : World) (hown : w.ownsRow base 5 1 v m xs) (hbase : base ≤ w.heap.size) (hm : m ≤ 1000) (hd : Blk .u8 w gd 5 [9, 9]) (hne : v.ownBlock ≠ some gd) :
    Calls Tryd.prog 81 #[v, smpV gd, .int .u8 7] w fun e w' => ∃ v', e = .returned v' ∧ w'.ownsRow base 5 1 v' (m + 3 + 2 + 2) (xs ++ ([7, 0, 2].map (Value.int .u8)) ++ ([1, 0].map (Value.int .u8)) ++ ([9, 9].map (Value.int .u8))) ∧ Grew w w' v v' := by
  obtain ⟨i0, hi, hz0, hz1, hz2⟩ := info_parts Tryd.info_u8
  have HO0 : Hid (w.ownsRow base 5 1 v m xs) := hown
  have HD0 : Hid (Blk .u8 w gd 5 [9, 9]) := hd
  have HN0 : Hid (v.ownBlock ≠ some gd) := hne
  clear hown hd hne
  go_enter Tryd.func81, Tryd.ntmps81
  go_wp2_with fail
  have hb1 : Blk .i64 ((w.alloc (smpO gd)).alloc (.cells #[.int .i64 7, .int .i64 0, .int .i64 2] 3)) (w.heap.size + 1) 3 [7, 0, 2] := by
    have := heap_alloc_new' (w.alloc (smpO gd)) (.cells #[.int .i64 7, .int .i64 0, .int .i64 2] 3)
    simp only [World.size_alloc] at this
    exact this
  have hbx : ((w.alloc (smpO gd)).alloc (.cells #[.int .i64 7, .int .i64 0, .int .i64 2] 3)).heap[w.heap.size]? = some (smpO gd) := by
    rw [Below.heap_alloc _ _ _ (by simp)]; exact heap_alloc_new' _ _
  refine (putNumbers_any v m xs base (w.heap.size + 1) [7, 0, 2] _ smalls702 (by decide) ((HO0.out.alloc _).alloc _) (by simp; omega) (by omega) hb1).mono ?_
  rintro e w2 ⟨v1, rfl, hown1, hgr1⟩
  rw [jn702] at hown1
  have hbx2 := hgr1.keeps ((HO0.out.alloc _).alloc _) hbx (by decide)
  have hgr01 : Grew w w2 v v1 := (Grew.below (((Below.refl _ _).alloc (Nat.le_refl _) _).alloc (by simp) _)).trans hgr1
  have hd2 := hgr01.blk HD0.out HN0.out
  have HO1 : Hid (w2.ownsRow base 5 1 v1 (m + 3) (xs ++ [7, 0, 2].map (Value.int .u8))) := hown1
  have HG1 : Hid (Grew w w2 v v1) := hgr01
  have HX2 : Hid (w2.heap[w.heap.size]? = some (smpO gd)) := hbx2
  have HD2 : Hid (Blk .u8 w2 gd 5 [9, 9] ∧ v1.ownBlock ≠ some gd) := hd2
  have hcx := fun j => cell_of_row w2 w.heap.size j _ _ _ hbx2
  have q8 := hcx 8
  have q9 := hcx 9
  simp only [List.getElem?_toArray, List.getElem?_cons_succ, List.getElem?_cons_zero] at q8 q9
  have hs2 : base ≤ w2.heap.size := by have := hgr01.grown.size; omega
  clear hb1 hbx hbx2 hgr1 hgr01 hd2 hown1 HO0 HD0 HN0 hcx
  go_wp2_with fail
  refine (any_any _ _ _).mono ?_
  rintro e w' ⟨rfl, rfl⟩
  rw [any7_4]
  go_wp2_with fail
  have hb3 : Blk .i64 (w2.alloc (.cells #[.int .i64 1, .int .i64 0] 3)) w2.heap.size 3 [1, 0] := heap_alloc_new' _ _
  refine (putNumbers_any v1 (m + 3) _ base w2.heap.size [1, 0] _ smalls10 (by decide) (HO1.out.alloc _) (by simp; omega) (by omega) hb3).mono ?_
  rintro e w4 ⟨v2, rfl, hown2, hgr2⟩
  rw [jn10] at hown2
  have hbx4 := hgr2.keeps (HO1.out.alloc _) ((Below.heap_alloc _ _ _ (lt_of_heap HX2.out)).trans HX2.out) (by decide)
  have hgr24 : Grew w2 w4 v1 v2 := (Grew.below ((Below.refl _ _).alloc (Nat.le_refl _) _)).trans hgr2
  have hd4 := hgr24.blk HD2.out.1 HD2.out.2
  have HO2 : Hid (w4.ownsRow base 5 1 v2 (m + 3 + 2) (xs ++ [7, 0, 2].map (Value.int .u8) ++ [1, 0].map (Value.int .u8))) := hown2
  have HG2 : Hid (Grew w w4 v v2) := HG1.out.trans hgr24
  have HD4 : Hid (Lies .u8 w4 (some ⟨gd, 0, none⟩) [9, 9]) := hd4.1.lies 2
  have q7 := cell_of_row w4 w.heap.size 7 _ _ _ hbx4
  simp only [List.getElem?_toArray, List.getElem?_cons_succ, List.getElem?_cons_zero] at q7
  have hs4 : base ≤ w4.heap.size := by have := hgr24.grown.size; omega
  clear hb3 hbx4 hgr2 hgr24 hd4 hown2 HO1 HG1 HX2 HD2 q8 q9
  go_wp2_with (at_builtin; refine append_at _ rfl _ _ 34 rfl base 5 i0 (.int .u8 0) 1 Tryd.underlying34 hi hz0 hz1 hz2 rfl _ _ _ rfl HO2.out .u8 (some ⟨gd, 0, none⟩) 2 2 [9, 9] rfl (fun h => by cases h) rfl HD4.out (by unfold maxLen; omega) (by omega) hs4 ?_)
  intro v3 w5 hown5 hgr5 hst5
  have HO5 : Hid (w5.ownsRow base 5 1 v3 (m + 3 + 2 + 2) (xs ++ ([7, 0, 2].map (Value.int .u8)) ++ ([1, 0].map (Value.int .u8)) ++ ([9, 9].map (Value.int .u8)))) := by
    unfold Hid; simpa [Nat.add_assoc] using hown5
  have HG5 : Hid (Grew w w5 v v3) := HG2.out.trans ⟨hgr5, hst5⟩
  clear hown5 hgr5 hst5 HO2 HG2 HD4 q7
  go_wp2
  go_ret
  exact ⟨v3, rfl, HO5.out, HG5.out⟩

theorem putExts_none (v : Value) (w : World) : Calls Tryd.prog 80 #[v, .slice none 0 0] w fun e w' => e = .returned v ∧ w = w' := putExts_nil v none 0 w
def wantB : List Int := [3, 1, 5, 0, 7, 0, 2, 1, 0, 9, 9]

def FormPost (w : World) (e : Ending) (w' : World) : Prop := ∃ g c, e = .returned (.slice (some ⟨g, 0, none⟩) 11 c) ∧ w'.ownsRow w.heap.size 5 1 (.slice (some ⟨g, 0, none⟩) 11 c) 11 (wantB.map (Value.int .u8)) ∧ Below w.heap.size w w'

set_option maxHeartbeats 2000000 in
theorem form_smp (gd : Nat) (w : World) (hd : Blk .u8 w gd 5 [9, 9]) : Calls Tryd.prog 68 #[smpV gd, .int .u8 7] w (FormPost w) := by
  obtain ⟨i0, hi, hz0, hz1, hz2⟩ := info_parts Tryd.info_u8
  have HD0 : Hid (Blk .u8 w gd 5 [9, 9]) := hd
  have hgl := hd.lt
  clear hd
  go_enter Tryd.func68, Tryd.ntmps68
  go_wp2_with fail
  have hown0 : (((w.alloc (smpO gd)).alloc (.cells #[.int .u8 3] 5)).alloc (.cells #[.int .i64 1, .int .i64 5] 3)).ownsRow w.heap.size 5 1 (.slice (some ⟨w.heap.size + 1, 0, none⟩) 1 1) 1 [.int .u8 3] := by
    have := World.ownsRow_lit (base := w.heap.size) (e := 5) (size := 1) (w.alloc (smpO gd)) #[.int .u8 3] 1 (by simp) (by unfold maxLen; omega) rfl
    simp only [World.size_alloc] at this
    exact this.alloc _
  have hb1 : Blk .i64 (((w.alloc (smpO gd)).alloc (.cells #[.int .u8 3] 5)).alloc (.cells #[.int .i64 1, .int .i64 5] 3)) (w.heap.size + 1 + 1) 3 [1, 5] := by
    have := heap_alloc_new' ((w.alloc (smpO gd)).alloc (.cells #[.int .u8 3] 5)) (.cells #[.int .i64 1, .int .i64 5] 3)
    simp only [World.size_alloc] at this
    exact this
  have hbx : (((w.alloc (smpO gd)).alloc (.cells #[.int .u8 3] 5)).alloc (.cells #[.int .i64 1, .int .i64 5] 3)).heap[w.heap.size]? = some (smpO gd) := by
    rw [Below.heap_alloc _ _ _ (by simp; omega), Below.heap_alloc _ _ _ (by simp)]; exact heap_alloc_new' _ _
  have hbel0 : Below w.heap.size w (((w.alloc (smpO gd)).alloc (.cells #[.int .u8 3] 5)).alloc (.cells #[.int .i64 1, .int .i64 5] 3)) := (((Below.refl _ _).alloc (Nat.le_refl _) _).alloc (by simp) _).alloc (by simp; omega) _
  refine (putNumbers_any _ 1 _ w.heap.size (w.heap.size + 1 + 1) [1, 5] _ smalls15 (by decide) hown0 (by simp; omega) (by omega) hb1).mono ?_
  rintro e w3 ⟨v1, rfl, hown1, hgr1⟩
  rw [jn15] at hown1
  have hbx3 := hgr1.keeps hown0 hbx (by decide)
  have hd3 := hgr1.blk (HD0.out.below hbel0 hgl) (by simp [Value.ownBlock]; omega)
  have HO1 : Hid (w3.ownsRow w.heap.size 5 1 v1 3 ([3, 1, 5].map (Value.int .u8))) := hown1
  have HX3 : Hid (w3.heap[w.heap.size]? = some (smpO gd)) := hbx3
  have HD3 : Hid (Blk .u8 w3 gd 5 [9, 9] ∧ v1.ownBlock ≠ some gd) := hd3
  have HB3 : Hid (Below w.heap.size w w3) := hbel0.trans (hgr1.base hown0 (by simp; omega))
  have hcx := fun j => cell_of_row w3 w.heap.size j _ _ _ hbx3
  have q3 := hcx 3
  have q4 := hcx 4
  simp only [List.getElem?_toArray, List.getElem?_cons_succ, List.getElem?_cons_zero] at q3 q4
  have hs3 : w.heap.size ≤ w3.heap.size := HB3.out.size
  clear hown0 hb1 hbx hbel0 hbx3 hgr1 hd3 hown1 HD0 hcx
  go_wp2_with (at_builtin; refine append_at _ rfl _ _ 34 rfl w.heap.size 5 i0 (.int .u8 0) 1 Tryd.underlying34 hi hz0 hz1 hz2 rfl _ _ _ rfl (HO1.out.alloc _) .u8 (some ⟨w3.heap.size, 0, none⟩) 1 1 [0] rfl (fun h => by cases h) rfl ((show Blk .u8 (w3.alloc (.cells #[.int .u8 0] 5)) w3.heap.size 5 [0] from heap_alloc_new' _ _).lies 1) (by unfold maxLen; omega) (by omega) (by simp; omega) ?_)
  intro v2 w4 hown2 hgr2 hst2
  have hgr34 : Grew w3 w4 v1 v2 := (Grew.below ((Below.refl _ _).alloc (Nat.le_refl _) _)).trans ⟨hgr2, by simpa using hst2⟩
  have hbx4 := hgr34.keeps HO1.out HX3.out (by decide)
  have hd4 := hgr34.blk HD3.out.1 HD3.out.2
  have HO2 : Hid (w4.ownsRow w.heap.size 5 1 v2 4 ([3, 1, 5, 0].map (Value.int .u8))) := hown2
  have HX4 : Hid (w4.heap[w.heap.size]? = some (smpO gd)) := hbx4
  have HD4 : Hid (Blk .u8 w4 gd 5 [9, 9] ∧ v2.ownBlock ≠ some gd) := hd4
  have HB4 : Hid (Below w.heap.size w w4) := HB3.out.trans (hgr34.base HO1.out hs3)
  have hs4 : w.heap.size ≤ w4.heap.size := HB4.out.size
  have hcx4 := fun j => cell_of_row w4 w.heap.size j _ _ _ hbx4
  clear q3 q4
  have q0 := hcx4 0
  have q1 := hcx4 1
  have q2 := hcx4 2
  have q3 := hcx4 3
  have q4 := hcx4 4
  have q5 := hcx4 5
  have q6 := hcx4 6
  have q7 := hcx4 7
  have q8 := hcx4 8
  have q9 := hcx4 9
  have q10 := hcx4 10
  have q11 := hcx4 11
  have q12 := hcx4 12
  have q13 := hcx4 13
  simp only [List.getElem?_toArray, List.getElem?_cons_succ, List.getElem?_cons_zero] at q0 q1 q2 q3 q4 q5 q6 q7 q8 q9 q10 q11 q12 q13
  clear hcx4 hbx4 hd4 hgr34 hgr2 hst2 hown2 HO1 HX3 HD3 HB3
  go_wp2_with fail
  refine (putExts_none _ _).mono ?_
  rintro e w' ⟨rfl, rfl⟩
  go_wp2_with fail
  refine (any_any _ _ _).mono ?_
  rintro e w' ⟨rfl, rfl⟩
  rw [show anyB 7 2 = true from by decide]
  go_wp2_with fail
  refine (putBlock_smp v2 4 _ w.heap.size gd w4 HO2.out hs4 (by omega) HD4.out.1 HD4.out.2).mono ?_
  rintro e w5 ⟨v3, rfl, hown3, hgr3⟩
  have hbx5 := hgr3.keeps HO2.out HX4.out (by decide)
  have HO5 : Hid (w5.ownsRow w.heap.size 5 1 v3 11 (wantB.map (Value.int .u8))) := hown3
  have HB5 : Hid (Below w.heap.size w w5) := HB4.out.trans (hgr3.base HO2.out hs4)
  have r4 := cell_of_row w5 w.heap.size 4 _ _ _ hbx5
  simp only [List.getElem?_toArray, List.getElem?_cons_succ, List.getElem?_cons_zero] at r4
  clear q0 q1 q2 q3 q4 q5 q6 q7 q8 q9 q10 q11 q12 q13 hbx5 hgr3 hown3 HO2 HX4 HD4 HB4
  go_wp2_with fail
  refine (putExts_none _ _).mono ?_
  rintro e w' ⟨rfl, rfl⟩
  go_wp2
  go_ret
  obtain ⟨hl, ⟨_, h0⟩ | ⟨g, c, cur, hv, r⟩⟩ := id HO5.out
  · cases h0
  · subst hv
    exact ⟨g, c, rfl, HO5.out, HB5.out⟩

/-- Print of the example: its bytes, in new memory. -/
def PrintPost (w : World) (e : Ending) (w' : World) : Prop := ∃ g c, e = .returned (.tuple #[.slice (some ⟨g, 0, none⟩) 11 c, .int .i64 0]) ∧ w'.ownsRow w.heap.size 5 1 (.slice (some ⟨g, 0, none⟩) 11 c) 11 (wantB.map (Value.int .u8)) ∧ Below w.heap.size w w'

set_option maxHeartbeats 2000000 in
theorem print_smp (gd : Nat) (w : World) (hd : Blk .u8 w gd 5 [9, 9]) (hT : Tab w) : Calls Tryd.prog 58 #[smpV gd] w (PrintPost w) := by
  have HD0 : Hid (Blk .u8 w gd 5 [9, 9]) := hd
  have HT : Hid (Tab (w.alloc (smpO gd))) := hT.below ((Below.refl _ _).alloc (Nat.le_refl _) _) (World.block_lt_of_cell? w ⟨0, 0, none⟩ (hT 0 (by omega)))
  have hgl := hd.lt
  clear hd hT
  go_enter Tryd.func58, Tryd.ntmps58
  go_wp2_with fail
  refine (shapeOf_any 3 _ HT.out).mono ?_
  rintro e w' ⟨rfl, rfl⟩
  rw [show shp 3 = 7 from by decide]
  go_wp2_with fail
  refine (any_any _ _ _).mono ?_
  rintro e w' ⟨rfl, rfl⟩
  rw [show anyB 7 1 = true from by decide]
  go_wp2_with fail
  refine (fields_smp gd _).mono ?_
  rintro e w2 ⟨rfl, y, rfl⟩
  have hbel := ext_below (w.alloc (smpO gd)) y
  have hcx := fun j => (ext_cell (w.alloc (smpO gd)) y ⟨w.heap.size, j, none⟩ (by simp)).trans (cell_of_row _ w.heap.size j _ _ _ (heap_alloc_new' w (smpO gd)))
  have q0 := hcx 0
  have q1 := hcx 1
  have q2 := hcx 2
  have q3 := hcx 3
  have q4 := hcx 4
  have q5 := hcx 5
  have q6 := hcx 6
  have q7 := hcx 7
  have q8 := hcx 8
  have q9 := hcx 9
  have q10 := hcx 10
  have q11 := hcx 11
  have q12 := hcx 12
  have q13 := hcx 13
  simp only [List.getElem?_toArray, List.getElem?_cons_succ, List.getElem?_cons_zero] at q0 q1 q2 q3 q4 q5 q6 q7 q8 q9 q10 q11 q12 q13
  have HB2 : Hid (Below w.heap.size w (ext (w.alloc (smpO gd)) y)) := ((Below.refl _ _).alloc (Nat.le_refl _) _).trans (hbel.mono (by simp))
  clear hbel hcx
  generalize ext (w.alloc (smpO gd)) y = w2 at *
  go_wp2_with fail
  refine (form_smp gd _ (HD0.out.below HB2.out hgl)).mono ?_
  rintro e w3 ⟨g, c, rfl, hown, hb3⟩
  have HO3 : Hid (w3.ownsRow w.heap.size 5 1 (.slice (some ⟨g, 0, none⟩) 11 c) 11 (wantB.map (Value.int .u8))) := own_base hown HB2.out.size
  have HB3 : Hid (Below w.heap.size w w3) := HB2.out.trans (hb3.mono HB2.out.size)
  clear hown hb3
  go_wp2
  go_ret2
  exact ⟨g, c, rfl, HO3.out, HB3.out⟩

set_option maxHeartbeats 2000000 in
theorem right_smp (gd : Nat) (w : World) (hd : Blk .u8 w gd 5 [9, 9]) (hT : Tab w) : Calls Tryd.prog 38 #[smpV gd] w fun e w' => e = .returned (.int .i64 0) ∧ Below w.heap.size w w' := by
  have hw0 : 0 < w.heap.size := World.block_lt_of_cell? w ⟨0, 0, none⟩ (hT 0 (by omega))
  have hbel : Below w.heap.size w (w.alloc (smpO gd)) := (Below.refl _ _).alloc (Nat.le_refl _) _
  have HD0 : Hid (Blk .u8 (w.alloc (smpO gd)) gd 5 [9, 9]) := hd.below hbel hd.lt
  have HT : Hid (Tab (w.alloc (smpO gd))) := hT.below hbel hw0
  clear hd hT
  go_enter Tryd.func38, Tryd.ntmps38
  go_wp2_with fail
  refine (print_smp gd _ HD0.out HT.out).mono ?_
  rintro e w2 ⟨g, c, rfl, hown, hb2⟩
  have HB : Hid (Below w.heap.size w w2) := hbel.trans (hb2.mono (by simp))
  clear hown hb2
  go_wp2
  go_ret
  exact ⟨rfl, HB.out⟩

end Go.Proofs.YtdfdaambfihjaaaDoor

namespace Go.Proofs.YtdfdaambfihjaaaDoor
open Go.RowKit

theorem conv_any (W : World) (a : Option Addr) (n cap : Nat) (xs : List Int) (hl : xs.length = n) (hc : Lies .u8 W a xs) :
    (convert 34 9 (.slice a n cap)).run Tryd.prog W = .ok (.string (strOfNums xs)) W := by
  rcases hc with rfl | ⟨b, off, rfl, h⟩
  · obtain rfl : n = 0 := by simpa using hl.symm
    cases a with
    | none => exact run_convert_bytes_nil (P := Tryd.prog) W 34 5 Tryd.underlying34 Tryd.underlying5 0 cap 9 Tryd.underlying9
    | some x =>
      have hl0 := run_loadCells_list (P := Tryd.prog) W x ([].map (Value.int .u8)) (fun j v hj => by simp at hj)
      rw [run_convert_bytes_string W 34 9 5 _ 0 cap Tryd.underlying34 Tryd.underlying5 Tryd.underlying9, run_bytesToString W x 0 cap [] hl0]
      rfl
  · exact run_convert_bytes_arg (P := Tryd.prog) W 34 5 Tryd.underlying34 Tryd.underlying5 b off n cap xs hl (fun i hi => h i (by omega)) 9 Tryd.underlying9

set_option maxHeartbeats 400000 in
theorem sameExts_nil (a a' : Option Addr) (c c' : Nat) (w : World) :
    Calls Tryd.prog 53 #[.slice a 0 c, .slice a' 0 c'] w fun e w' => e = .returned (.bool true) ∧ w = w' := by
  go_enter Tryd.func53, Tryd.ntmps53
  go_wp2
  refine wp_loop_rounds 1 ?_
  rw [rounds_succ]
  go_wp2
  go_ret
  exact ⟨rfl, rfl⟩
set_option maxHeartbeats 400000 in
theorem sameSpans_nil (a a' : Option Addr) (c c' : Nat) (w : World) :
    Calls Tryd.prog 54 #[.slice a 0 c, .slice a' 0 c'] w fun e w' => e = .returned (.bool true) ∧ w = w' := by
  go_enter Tryd.func54, Tryd.ntmps54
  go_wp2
  refine wp_loop_rounds 1 ?_
  rw [rounds_succ]
  go_wp2
  go_ret
  exact ⟨rfl, rfl⟩

abbrev smpWO (a1 a2 a3 : Option Addr) (c1 c2 c3 g cd : Nat) : Obj := .cells #[.int .i64 3, .int .i64 1, .int .i64 5, .slice a1 0 c1, .slice a2 0 c2, .int .i64 7, .int .i64 0, .slice (some ⟨g, 0, none⟩) 2 cd, .int .i64 1, .int .i64 0, .int .i64 0, .int .i64 0, .slice a3 0 c3, .int .i64 0] 37
abbrev smpW (a1 a2 a3 : Option Addr) (c1 c2 c3 g cd : Nat) : Value := .agg #[.int .i64 3, .int .i64 1, .int .i64 5, .slice a1 0 c1, .slice a2 0 c2, .int .i64 7, .int .i64 0, .slice (some ⟨g, 0, none⟩) 2 cd, .int .i64 1, .int .i64 0, .int .i64 0, .int .i64 0, .slice a3 0 c3, .int .i64 0]

set_option maxRecDepth 100000 in
set_option maxHeartbeats 4000000 in
theorem same_smp (a1 a2 a3 : Option Addr) (c1 c2 c3 g cd g' : Nat) (w : World) (h1 : Lies .u8 w (some ⟨g, 0, none⟩) [9, 9]) (h2 : Lies .u8 w (some ⟨g', 0, none⟩) [9, 9]) :
    Calls Tryd.prog 26 #[smpW a1 a2 a3 c1 c2 c3 g cd, smpV g'] w fun e w' => e = .returned (.bool true) ∧ Below w.heap.size w w' := by
  have hb : Below w.heap.size w ((w.alloc (smpWO a1 a2 a3 c1 c2 c3 g cd)).alloc (smpO g')) := ((Below.refl _ _).alloc (Nat.le_refl _) _).alloc (by simp) _
  have k1 := conv_any _ _ 2 cd _ rfl (h1.below hb)
  have k2 := conv_any _ _ 2 2 _ rfl (h2.below hb)
  have HB : Hid (Below w.heap.size w ((w.alloc (smpWO a1 a2 a3 c1 c2 c3 g cd)).alloc (smpO g'))) := hb
  clear h1 h2 hb
  go_enter Tryd.func26, Tryd.ntmps26
  go_wp2_with (first
    | (go_at_call 53; refine (sameExts_nil _ _ _ _ _).mono ?_; rintro e w' ⟨rfl, rfl⟩)
    | (go_at_call 54; refine (sameSpans_nil _ _ _ _ _).mono ?_; rintro e w' ⟨rfl, rfl⟩))
  go_ret
  exact ⟨rfl, HB.out⟩

theorem prs_want : (prs wantB).1 = 0 ∧ (prs wantB).2 = smp := by
  have h : segp wantB = .ok smp [] := by rfl
  unfold prs
  rw [if_neg (by decide), h]
  exact ⟨rfl, rfl⟩

def wantO : Obj := .cells #[.int .u8 3, .int .u8 1, .int .u8 5, .int .u8 0, .int .u8 7, .int .u8 0, .int .u8 2, .int .u8 1, .int .u8 0, .int .u8 9, .int .u8 9] 5

end Go.Proofs.YtdfdaambfihjaaaDoor
