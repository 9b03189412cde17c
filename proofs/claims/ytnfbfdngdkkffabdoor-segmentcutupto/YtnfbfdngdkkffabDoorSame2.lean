import Derived.Test.YtnfbfdngdkkffabDoorSmp2
namespace Go.Proofs.YtnfbfdngdkkffabDoor
open Go.RowKit

theorem conv_any (W : World) (a : Option Addr) (n cap : Nat) (xs : List Int) (hl : xs.length = n) (hc : Lies .u8 W a xs) :
    (convert 25 9 (.slice a n cap)).run Tryd.prog W = .ok (.string (strOfNums xs)) W := by
  rcases hc with rfl | ⟨b, off, rfl, h⟩
  · obtain rfl : n = 0 := by simpa using hl.symm
    cases a with
    | none => exact run_convert_bytes_nil (P := Tryd.prog) W 25 5 Tryd.underlying25 Tryd.underlying5 0 cap 9 Tryd.underlying9
    | some x =>
      have hl0 := run_loadCells_list (P := Tryd.prog) W x ([].map (Value.int .u8)) (fun j v hj => by simp at hj)
      rw [run_convert_bytes_string W 25 9 5 _ 0 cap Tryd.underlying25 Tryd.underlying5 Tryd.underlying9, run_bytesToString W x 0 cap [] hl0]
      rfl
  · exact run_convert_bytes_arg (P := Tryd.prog) W 25 5 Tryd.underlying25 Tryd.underlying5 b off n cap xs hl (fun i hi => h i (by omega)) 9 Tryd.underlying9

set_option maxHeartbeats 400000 in
theorem sameExts_nil (a a' : Option Addr) (c c' : Nat) (w : World) :
    Calls Tryd.prog 45 #[.slice a 0 c, .slice a' 0 c'] w fun e w' => e = .returned (.bool true) ∧ w = w' := by
  go_enter Tryd.func45, Tryd.ntmps45
  go_wp2
  refine wp_loop_rounds 1 ?_
  rw [rounds_succ]
  go_wp2
  go_ret
  exact ⟨rfl, rfl⟩
set_option maxHeartbeats 400000 in
theorem sameSpans_nil (a a' : Option Addr) (c c' : Nat) (w : World) :
    Calls Tryd.prog 46 #[.slice a 0 c, .slice a' 0 c'] w fun e w' => e = .returned (.bool true) ∧ w = w' := by
  go_enter Tryd.func46, Tryd.ntmps46
  go_wp2
  refine wp_loop_rounds 1 ?_
  rw [rounds_succ]
  go_wp2
  go_ret
  exact ⟨rfl, rfl⟩

abbrev smpWO (a1 a2 a3 : Option Addr) (c1 c2 c3 g cd : Nat) : Obj := .cells #[.int .i64 3, .int .i64 1, .int .i64 5, .slice a1 0 c1, .slice a2 0 c2, .int .i64 7, .int .i64 0, .slice (some ⟨g, 0, none⟩) 2 cd, .int .i64 1, .int .i64 0, .int .i64 0, .int .i64 0, .slice a3 0 c3, .int .i64 0] 28
abbrev smpW (a1 a2 a3 : Option Addr) (c1 c2 c3 g cd : Nat) : Value := .agg #[.int .i64 3, .int .i64 1, .int .i64 5, .slice a1 0 c1, .slice a2 0 c2, .int .i64 7, .int .i64 0, .slice (some ⟨g, 0, none⟩) 2 cd, .int .i64 1, .int .i64 0, .int .i64 0, .int .i64 0, .slice a3 0 c3, .int .i64 0]

set_option maxRecDepth 100000 in
set_option maxHeartbeats 4000000 in
theorem same_smp (a1 a2 a3 : Option Addr) (c1 c2 c3 g cd g' : Nat) (w : World) (h1 : Lies .u8 w (some ⟨g, 0, none⟩) [9, 9]) (h2 : Lies .u8 w (some ⟨g', 0, none⟩) [9, 9]) :
    Calls Tryd.prog 19 #[smpW a1 a2 a3 c1 c2 c3 g cd, smpV g'] w fun e w' => e = .returned (.bool true) ∧ Below w.heap.size w w' := by
  have hb : Below w.heap.size w ((w.alloc (smpWO a1 a2 a3 c1 c2 c3 g cd)).alloc (smpO g')) := ((Below.refl _ _).alloc (Nat.le_refl _) _).alloc (by simp) _
  have k1 := conv_any _ _ 2 cd _ rfl (h1.below hb)
  have k2 := conv_any _ _ 2 2 _ rfl (h2.below hb)
  have HB : Hid (Below w.heap.size w ((w.alloc (smpWO a1 a2 a3 c1 c2 c3 g cd)).alloc (smpO g'))) := hb
  clear h1 h2 hb
  go_enter Tryd.func19, Tryd.ntmps19
  go_wp2_with (first
    | (go_at_call 45; refine (sameExts_nil _ _ _ _ _).mono ?_; rintro e w' ⟨rfl, rfl⟩)
    | (go_at_call 46; refine (sameSpans_nil _ _ _ _ _).mono ?_; rintro e w' ⟨rfl, rfl⟩))
  go_ret
  exact ⟨rfl, HB.out⟩

theorem prs_want : (prs wantB).1 = 0 ∧ (prs wantB).2 = smp := by
  have h : segp wantB = .ok smp [] := by rfl
  unfold prs
  rw [if_neg (by decide), h]
  exact ⟨rfl, rfl⟩

def wantO : Obj := .cells #[.int .u8 3, .int .u8 1, .int .u8 5, .int .u8 0, .int .u8 7, .int .u8 0, .int .u8 2, .int .u8 1, .int .u8 0, .int .u8 9, .int .u8 9] 5

end Go.Proofs.YtnfbfdngdkkffabDoor
