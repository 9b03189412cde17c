import Derived.Test.YtcfodcioeefbeaaDoorCur
namespace Go.Proofs.YtcfodcioeefbeaaDoor
open Go.RowKit

/-- The reader's cells behind its cursor: its parts, and the segment that it has got. -/
def gl (h t o n : Int) (hd tv : Value) (sv oo : Int) (dv : Value) (ck rp up lo : Int) (cv : Value) (rs : Int) : List Value :=
  [.int .u8 h, .int .i64 t, .int .i64 o, .int .i64 n, hd, tv, .int .i64 sv, .int .i64 oo, dv, .int .i64 ck, .int .i64 rp, .int .i64 up, .int .i64 lo, cv, .int .i64 rs]

theorem any3_4 : anyB 3 4 = false := by decide
theorem one3_4 : one (anyB 3 4) = 0 := by decide
theorem one3_24 : one (anyB 3 24) = 0 := by decide
theorem any7_4 : anyB 7 4 = true := by decide
theorem one7_4 : one (anyB 7 4) = 1 := by decide
theorem one7_24 : one (anyB 7 24) = 0 := by decide
end Go.Proofs.YtcfodcioeefbeaaDoor

namespace Go.Proofs.YtcfodcioeefbeaaDoor
open Go.RowKit

def spc (p : Int × Int) : List Value := [.int .i64 p.1, .int .i64 p.2]
theorem Tryd.info_span : (Tryd.prog.info? 113).map (fun i => (i.zero, i.size, i.bytes)) = some (some (.agg #[.int .i64 0, .int .i64 0]), 2, 16) := by kernel_rfl

theorem claimsp_step (zs : List Int) (n k : Nat) (hk : k < n) (lo up least : Int) (acc : List (Int × Int)) {st st1 st2 st0 : St} {f m : Int} (h : ∀ (β : Type) (K : List (Int × Int) → Pr β), fin ((claimsp lo up n 0 []).bind K) zs st0 = fin ((claimsp lo up (n - k) least acc).bind K) zs st)
    (h1 : Step zs (numb least (up - lo - 1)) st f st1) (h2 : Step zs (numb 1 (up - (lo + f))) st1 m st2) : ∀ (β : Type) (K : List (Int × Int) → Pr β), fin ((claimsp lo up n 0 []).bind K) zs st0 = fin ((claimsp lo up (n - (k + 1)) (lo + f + m - lo + 1) (acc ++ [(lo + f, lo + f + m)])).bind K) zs st2 := by
  intro β K
  rw [h, show n - k = (n - (k + 1)) + 1 from by omega, claimsp, Pr.bind_assoc, h1, Pr.bind_assoc, h2]

end Go.Proofs.YtcfodcioeefbeaaDoor
