import Derived.Test.YtnclfoljfnfglaiTmKey
import Derived.DeepKeys
namespace Go.Proofs.Ytnclfoljfnfglai
open Go.RowKit Go.Maps
set_option linter.unusedVariables false

/-! ## Two keys, two sessions: are they the same? -/
theorem lits_key {k : Kx} (h : kW k) : Try.prog.keyLits (Try.prog.types.size + 1) 51 [.int .i64 k.1, .int .i64 k.2.1, .int .i64 k.2.2.1, .int .i64 k.2.2.2.1, .int .i64 k.2.2.2.2] = Option.some [.int .i64 k.1, .int .i64 k.2.1, .int .i64 k.2.2.1, .int .i64 k.2.2.2.1, .int .i64 k.2.2.2.2] := by
  obtain ⟨m, hm⟩ := typesSize
  obtain ⟨h1, h2, h3, h4, h5⟩ := h
  rw [hm, lits51, lits49]
  simp [lits3, h1, h2, h3, h4, h5]
theorem eqGuard51 : Try.prog.eqGuardType Try.prog.depth 51 = false := by kernel_rfl
theorem eql_key {x y : Kx} (hx : kW x) (hy : kW y) (w : World) : (binOp .eql 51 (kA x) (kA y)).run Try.prog w = .ok (.bool (decide (x = y))) w := by
  obtain ⟨r, hr, hiff⟩ := run_equalIn_deep (P := Try.prog) 9996 4 51 deep51 w _ _ (kA x) (kA y) _ _ (formed51 _ _ _ _ _) (formed51 _ _ _ _ _) (lits_key hx) (lits_key hy)
  have e : r = decide (x = y) := by
    rw [Bool.eq_iff_iff, hiff, decide_eq_true_iff]
    obtain ⟨x0, x1, x2, x3, x4⟩ := x
    obtain ⟨y0, y1, y2, y3, y4⟩ := y
    simp
  subst e
  simp only [binOp, Op.equal, Op.maxDepth]
  simp only [Sem.run_bind, hr, Result.andThen_ok, Sem.run_pure]
theorem neq_key {x y : Kx} (hx : kW x) (hy : kW y) (w : World) : (binOp .neq 51 (kA x) (kA y)).run Try.prog w = .ok (.bool (!decide (x = y))) w := by
  obtain ⟨r, hr, hiff⟩ := run_equalIn_deep (P := Try.prog) 9996 4 51 deep51 w _ _ (kA x) (kA y) _ _ (formed51 _ _ _ _ _) (formed51 _ _ _ _ _) (lits_key hx) (lits_key hy)
  have e : r = decide (x = y) := by
    rw [Bool.eq_iff_iff, hiff, decide_eq_true_iff]
    obtain ⟨x0, x1, x2, x3, x4⟩ := x
    obtain ⟨y0, y1, y2, y3, y4⟩ := y
    simp
  subst e
  simp only [binOp, Op.equal, Op.maxDepth]
  simp only [Sem.run_bind, hr, Result.andThen_ok, Sem.run_pure]
theorem deep49 : Try.prog.keyTypeAt 4 49 = true := by kernel_rfl
theorem formed49 (a b : Value) : (Value.agg #[a, b]).formed Try.prog 49 = true := by simp [Value.formed, Try.underlying49, cells49]
theorem lits_ses {a b : Int} (h1 : kI a = true) (h2 : kI b = true) : Try.prog.keyLits (Try.prog.types.size + 1) 49 [.int .i64 a, .int .i64 b] = Option.some [.int .i64 a, .int .i64 b] := by
  obtain ⟨m, hm⟩ := typesSize
  rw [hm, show m + 3 = (m + 1) + 2 from rfl, lits49]
  simp [lits3, h1, h2]
theorem eqGuard49 : Try.prog.eqGuardType Try.prog.depth 49 = false := by kernel_rfl
theorem eql_ses {a b c d : Int} (h1 : kI a = true) (h2 : kI b = true) (h3 : kI c = true) (h4 : kI d = true) (w : World) : (binOp .eql 49 (.agg #[.int .i64 a, .int .i64 b]) (.agg #[.int .i64 c, .int .i64 d])).run Try.prog w = .ok (.bool (decide (a = c ∧ b = d))) w := by
  obtain ⟨r, hr, hiff⟩ := run_equalIn_deep (P := Try.prog) 9996 4 49 deep49 w _ _ (.agg #[.int .i64 a, .int .i64 b]) (.agg #[.int .i64 c, .int .i64 d]) _ _ (formed49 _ _) (formed49 _ _) (lits_ses h1 h2) (lits_ses h3 h4)
  have e : r = decide (a = c ∧ b = d) := by
    rw [Bool.eq_iff_iff, hiff, decide_eq_true_iff]
    simp
  subst e
  simp only [binOp, Op.equal, Op.maxDepth]
  simp only [Sem.run_bind, hr, Result.andThen_ok, Sem.run_pure]

end Go.Proofs.Ytnclfoljfnfglai
