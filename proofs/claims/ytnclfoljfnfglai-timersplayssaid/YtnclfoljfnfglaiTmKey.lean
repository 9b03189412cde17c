import Derived.Test.YtnclfoljfnfglaiChecked
import Derived.WalkKit
import Derived.Maps.OwnSet
import Derived.Maps.RangeWalk
import Derived.Maps.Ext
import Derived.DeepKeys4
import Derived.WideKeyEntry
import Derived.Below
namespace Go.Proofs.Ytnclfoljfnfglai
open Go.RowKit Go.Maps
set_option linter.unusedVariables false

/-- A timer's key: peer, origin, number, kind, serial. -/
abbrev Kx := Int × Int × Int × Int × Int
def kV (k : Kx) : List Value := [.int .i64 k.1, .int .i64 k.2.1, .int .i64 k.2.2.1, .int .i64 k.2.2.2.1, .int .i64 k.2.2.2.2]
abbrev kA (k : Kx) : Value := .agg #[.int .i64 k.1, .int .i64 k.2.1, .int .i64 k.2.2.1, .int .i64 k.2.2.2.1, .int .i64 k.2.2.2.2]
def kI (x : Int) : Bool := (Lit.int .i64 x).wf
def kW (k : Kx) : Prop := kI k.1 = true ∧ kI k.2.1 = true ∧ kI k.2.2.1 = true ∧ kI k.2.2.2.1 = true ∧ kI k.2.2.2.2 = true
def kL (k : Kx) : Lit := .string (keyBytes [.int .i64 k.1, .int .i64 k.2.1, .int .i64 k.2.2.1, .int .i64 k.2.2.2.1, .int .i64 k.2.2.2.2])

theorem keyType51 : Try.prog.keyType 51 = true := by kernel_rfl
theorem cells51 : Try.prog.cellsOf 51 = 5 := by kernel_rfl
theorem cells49 : Try.prog.cellsOf 49 = 2 := by kernel_rfl
theorem cells3 : Try.prog.cellsOf 3 = 1 := by kernel_rfl
theorem formed51 (a b c d e : Value) : (Value.agg #[a, b, c, d, e]).formed Try.prog 51 = true := by simp [Value.formed, Try.underlying51, cells51]
theorem typesSize : ∃ m, Try.prog.types.size + 1 = m + 3 := ⟨Try.prog.types.size - 2, by have : 2 ≤ Try.prog.types.size := of_decide_eq_true (by kernel_rfl); omega⟩

theorem lits3 (m : Nat) (a : Value) : Try.prog.keyLits (m + 1) 3 [a] = (match a with | .int q n => if q = .i64 ∧ kI n = true then some [.int .i64 n] else none | _ => none) := by
  unfold Program.keyLits
  rw [Try.underlying3]
  cases a <;> rfl
theorem lits49 (m : Nat) (a b : Value) : Try.prog.keyLits (m + 2) 49 [a, b] = (Try.prog.keyLits (m + 1) 3 [a]).bind fun x => (Try.prog.keyLits (m + 1) 3 [b]).bind fun y => some (x ++ y) := by
  conv => lhs; unfold Program.keyLits
  rw [Try.underlying49]
  simp [cells49, cells3, List.mapM_cons]
  cases Try.prog.keyLits (m + 1) 3 [a] <;> simp
  cases Try.prog.keyLits (m + 1) 3 [b] <;> simp
theorem lits51 (m : Nat) (a b c d e : Value) : Try.prog.keyLits (m + 3) 51 [a, b, c, d, e] = (Try.prog.keyLits (m + 2) 3 [a]).bind fun x => (Try.prog.keyLits (m + 2) 49 [b, c]).bind fun y => (Try.prog.keyLits (m + 2) 3 [d]).bind fun z => (Try.prog.keyLits (m + 2) 3 [e]).bind fun u => some (x ++ (y ++ (z ++ u))) := by
  conv => lhs; unfold Program.keyLits
  rw [Try.underlying51]
  simp [cells51, cells49, cells3, List.mapM_cons]
  cases Try.prog.keyLits (m + 2) 3 [a] <;> simp
  cases Try.prog.keyLits (m + 2) 49 [b, c] <;> simp
  cases Try.prog.keyLits (m + 2) 3 [d] <;> simp
  cases Try.prog.keyLits (m + 2) 3 [e] <;> simp

set_option maxRecDepth 100000 in
theorem key_of {k : Kx} (h : kW k) : keyOf Try.prog 51 (kA k) = some (kL k) := by
  obtain ⟨m, hm⟩ := typesSize
  obtain ⟨h1, h2, h3, h4, h5⟩ := h
  unfold keyOf
  rw [Try.underlying51]
  simp only [keyType51, formed51, Bool.and_self, if_true, Value.cells]
  rw [hm, lits51, lits49]
  simp [lits3, h1, h2, h3, h4, h5, kL]

theorem len5 : ∀ xs : List Value, xs.length = 5 → ∃ a b c d e, xs = [a, b, c, d, e]
  | [a, b, c, d, e], _ => ⟨a, b, c, d, e, rfl⟩
set_option maxRecDepth 100000 in
theorem key_inv {v : Value} {l : Lit} (h : keyOf Try.prog 51 v = some l) : ∃ k, v = kA k ∧ kW k ∧ l = kL k := by
  obtain ⟨m, hm⟩ := typesSize
  have h0 := h
  simp only [keyOf, Try.underlying51] at h
  split at h
  case isFalse => cases h
  rename_i hf
  simp only [keyType51, Bool.true_and] at hf
  obtain ⟨cs, rfl⟩ : ∃ cs, v = .agg cs := by
    cases v <;> simp [Value.formed, Try.underlying51] at hf
    exact ⟨_, rfl⟩
  have hl : cs.toList.length = 5 := by
    simp [Value.formed, Try.underlying51, cells51] at hf
    simp [hf]
  obtain ⟨a, b, c, d, e, hx⟩ := len5 _ hl
  obtain rfl : cs = #[a, b, c, d, e] := by rw [← hx]
  clear hl hx hf
  simp only [Value.cells] at h
  rw [hm, lits51, lits49] at h
  clear hm
  simp only [lits3] at h
  cases a <;> try (simp at h; done)
  cases b <;> try (simp at h; done)
  cases c <;> try (simp at h; done)
  cases d <;> try (simp at h; done)
  cases e <;> try (simp at h; done)
  rename_i q1 n1 q2 n2 q3 n3 q4 n4 q5 n5
  simp only at h
  by_cases c1 : q1 = .i64 ∧ kI n1 = true
  · by_cases c2 : q2 = .i64 ∧ kI n2 = true
    · by_cases c3 : q3 = .i64 ∧ kI n3 = true
      · by_cases c4 : q4 = .i64 ∧ kI n4 = true
        · by_cases c5 : q5 = .i64 ∧ kI n5 = true
          · obtain ⟨rfl, w1⟩ := c1
            obtain ⟨rfl, w2⟩ := c2
            obtain ⟨rfl, w3⟩ := c3
            obtain ⟨rfl, w4⟩ := c4
            obtain ⟨rfl, w5⟩ := c5
            have hk : kW (n1, n2, n3, n4, n5) := ⟨w1, w2, w3, w4, w5⟩
            exact ⟨(n1, n2, n3, n4, n5), rfl, hk, Option.some.inj (h0.symm.trans (key_of hk))⟩
          · simp [c5] at h
        · simp [c4] at h
      · simp [c3] at h
    · simp [c2] at h
  · simp [c1] at h

theorem laidOut10 : laidOutB Try.prog = true := by kernel_rfl
theorem wide51 : (match Try.prog.underlying 51 with | some (.array _ _) | some (.struct _) => true | _ => false) = true := by kernel_rfl
theorem row51 : (51 : TypeId) < Try.prog.types.size := of_decide_eq_true (by kernel_rfl)
theorem deep51 : Try.prog.keyTypeAt 4 51 = true := by kernel_rfl
set_option maxRecDepth 100000 in
theorem keyLaw : WideMaps.KeyLaw Try.prog 51 := deep_law_laid laidOut10 (m := 4) (by omega) row51 deep51 wide51
theorem keyK : Keyed Try.prog 51 := Keyed.of_law keyLaw
theorem peerK : Keyed Try.prog 3 := int_keyed Try.underlying3
theorem kA_inj {k k' : Kx} (h : kA k = kA k') : k = k' := by
  obtain ⟨a, b, c, d, e⟩ := k
  obtain ⟨a', b', c', d', e'⟩ := k'
  simpa using h
theorem kL_inj {k k' : Kx} (h : kW k) (h' : kW k') (e : kL k = kL k') : k = k' :=
  kA_inj (keyK.inj (key_of h) (e ▸ key_of h'))

end Go.Proofs.Ytnclfoljfnfglai
