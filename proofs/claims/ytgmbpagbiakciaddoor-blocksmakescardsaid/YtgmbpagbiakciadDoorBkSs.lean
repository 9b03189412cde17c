import Derived.Test.YtgmbpagbiakciadDoorMay
import Derived.Test.YtgmbpagbiakciadDoorOwn4
import Derived.WalkSmall
namespace Go.Proofs.YtgmbpagbiakciadDoor
open Go.RowKit
set_option linter.unusedVariables false
set_option linter.unusedSimpArgs false

theorem conv4 (W : World) (a : Option Addr) (n cap : Nat) (xs : List Int) (hl : xs.length = n) (hc : Lies .u8 W a xs) :
    (convert 47 9 (.slice a n cap)).run Tryd.prog W = .ok (.string (strOfNums xs)) W := by
  rcases hc with rfl | ⟨b, off, rfl, h⟩
  · obtain rfl : n = 0 := by simpa using hl.symm
    cases a with
    | none => exact run_convert_bytes_nil (P := Tryd.prog) W 47 5 Tryd.underlying47 Tryd.underlying5 0 cap 9 Tryd.underlying9
    | some x =>
      have hl0 := run_loadCells_list (P := Tryd.prog) W x ([].map (Value.int .u8)) (fun j v hj => by simp at hj)
      rw [run_convert_bytes_string W 47 9 5 _ 0 cap Tryd.underlying47 Tryd.underlying5 Tryd.underlying9, run_bytesToString W x 0 cap [] hl0]
      rfl
  · exact run_convert_bytes_arg (P := Tryd.prog) W 47 5 Tryd.underlying47 Tryd.underlying5 b off n cap xs hl (fun i hi => h i (by omega)) 9 Tryd.underlying9

set_option maxRecDepth 100000 in
set_option maxHeartbeats 4000000 in
/-- Two segments without lists that say the same: sameSegment says so. -/
theorem sameSeg4_eq (s : Sg) (ad bd : Option Addr) (nd ca cb : Nat) (w : World) (hl : s.data.length = nd) (ha : Lies .u8 w ad s.data) (hb : Lies .u8 w bd s.data) :
    Calls Tryd.prog 21 #[.agg (svC s (.slice none 0 0) (.slice none 0 0) (.slice ad nd ca) (.slice none 0 0)), .agg (svC s (.slice none 0 0) (.slice none 0 0) (.slice bd nd cb) (.slice none 0 0))] w fun e w' => e = .returned (.bool true) ∧ Below w.heap.size w w' := by
  have HB : Hid (Below w.heap.size w ((w.alloc (svO s (.slice none 0 0) (.slice none 0 0) (.slice ad nd ca) (.slice none 0 0))).alloc (svO s (.slice none 0 0) (.slice none 0 0) (.slice bd nd cb) (.slice none 0 0)))) := ((Below.refl _ _).alloc (Nat.le_refl _) _).alloc (by simp) _
  have k1 := conv4 ((w.alloc (svO s (.slice none 0 0) (.slice none 0 0) (.slice ad nd ca) (.slice none 0 0))).alloc (svO s (.slice none 0 0) (.slice none 0 0) (.slice bd nd cb) (.slice none 0 0))) ad nd ca s.data hl (ha.below HB.out)
  have k2 := conv4 ((w.alloc (svO s (.slice none 0 0) (.slice none 0 0) (.slice ad nd ca) (.slice none 0 0))).alloc (svO s (.slice none 0 0) (.slice none 0 0) (.slice bd nd cb) (.slice none 0 0))) bd nd cb s.data hl (hb.below HB.out)
  clear hl ha hb
  generalize strOfNums s.data = S at *
  go_enter Tryd.func21, Tryd.ntmps21
  go_upto_region 3 with fail
  try simp only [List.append_eq, List.cons_append, List.nil_append]
  go_upto_region 4 with fail
  try simp only [List.append_eq, List.cons_append, List.nil_append]
  go_wp2
  go_ret
  exact ⟨rfl, HB.out⟩
end Go.Proofs.YtgmbpagbiakciadDoor
