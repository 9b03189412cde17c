import Derived.Test.YtlagadpfnkidjabDoorMay
import Derived.Test.YtlagadpfnkidjabDoorLex29
namespace Go.Proofs.YtlagadpfnkidjabDoor
open Go.RowKit

/-- A segment that lies somewhere. -/
structure SIn (w : World) (s : Sg) (hv tv dv cv : Value) (hx tx : List Xr) : Prop where
  head : XIn w hv hx
  headEq : s.head = hx.map Xr.ex
  tail : XIn w tv tx
  tailEq : s.tail = tx.map Xr.ex
  data : BIn w dv s.data
  clm : CIn w cv s.clm
theorem SIn.below {w w' : World} {s : Sg} {hv tv dv cv : Value} {hx tx : List Xr} (h : SIn w s hv tv dv cv hx tx) (hb : Below w.heap.size w w') : SIn w' s hv tv dv cv hx tx :=
  ⟨h.head.below hb, h.headEq, h.tail.below hb, h.tailEq, h.data.below hb, h.clm.below hb⟩

/-- The fields of a segment of these parts may be. -/
def may (h : Int) (s : Sg) (hx tx : List Xr) : Bool := (btw s.org 1 4611686018427387903 && (btw s.num 1 4611686018427387902 && (xsOk hx && (xsOk tx && (alw h s.srv 2 0 4611686018427387903 && (alw h (s.data.length : Int) 2 1 65536 && (alw h s.off 2 0 (65536 - (s.data.length : Int)) && (alw h s.chk 12 (one (anyB h 4)) 4611686018427387903 && (alw h s.rep 28 (one (anyB h 24)) 4611686018427387903 && (alw h s.upp 8 1 65536 && (alw h s.low 8 0 (s.upp - 1) && (alw h (s.clm.length : Int) 8 1 1000 && (clOk s.upp s.low s.clm && alw h s.rsn 32 0 5)))))))))))))

theorem between_v (n lo hi : Int) (w : World) (q : Bool) (h : btw n lo hi = q) : Calls Tryd.prog 56 #[.int .i64 n, .int .i64 lo, .int .i64 hi] w fun e w' => e = .returned (.bool q) ∧ w = w' := by
  have := between_any n lo hi w; rw [h] at this; exact this
theorem allow_v (p n s lo hi : Int) (w : World) (q : Bool) (h : alw p n s lo hi = q) : Calls Tryd.prog 58 #[.int .u8 p, .int .i64 n, .int .u8 s, .int .i64 lo, .int .i64 hi] w fun e w' => e = .returned (.bool q) ∧ w = w' := by
  have := allow_any p n s lo hi w; rw [h] at this; exact this
theorem exts_v (v : Value) (xs : List Xr) (w : World) (h : XIn w v xs) (q : Bool) (hq : xsOk xs = q) : Calls Tryd.prog 57 #[v] w fun e w' => e = .returned (.bool q) ∧ ∃ y, w' = ext w y := by
  have := extsMayBe_any v xs w h; unfold XMayPost at this; rw [hq] at this; exact this
theorem claims_v (s : Sg) (hv tv dv cv : Value) (w : World) (h : CIn w cv s.clm) (hu : s.upp ≤ 1000000) (hl : 0 ≤ s.low) (q : Bool) (hq : clOk s.upp s.low s.clm = q) : Calls Tryd.prog 61 #[.agg (svC s hv tv dv cv)] w fun e w' => e = .returned (.bool q) ∧ ∃ y, w' = ext w y := by
  have := claimsMayBe_any s hv tv dv cv w h hu hl; unfold CMayPost at this; rw [hq] at this; exact this
theorem alw_up {h n s lo hi : Int} (e : alw h n s lo hi = true) : n = 0 ∨ lo ≤ n ∧ n ≤ hi := by
  unfold alw at e
  split at e
  · right; simpa [btw] using e
  · left; simpa using e

end Go.Proofs.YtlagadpfnkidjabDoor
