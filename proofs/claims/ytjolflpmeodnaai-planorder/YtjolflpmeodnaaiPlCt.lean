import Derived.Test.YtjolflpmeodnaaiPlMath
import Derived.WalkKit
import Derived.WalkSpells
import Derived.WalkMore
import Derived.Deep.LoopGhost
import Derived.WalkLawsBesides
import Derived.Laws.Rows
import Derived.Deep.RegionWith
import Derived.Deep.QuietTactic
import Derived.BigQuiet
import Derived.WalkSmall
namespace Go.Proofs.Ytjolflpmeodnaai
set_option linter.unusedVariables false
open Go.RowKit

/-! ## Contacts in memory -/

/-- Contacts lie at a slice's head. -/
def Cta (w : World) (a : Option Addr) (l : List Ct) : Prop := l = [] ∨ ∃ g off, a = some ⟨g, off, none⟩ ∧ ∀ (i : Nat) (c : Ct), l[i]? = some c →
  w.cell? ⟨g, off + i * 4, none⟩ = some (.int .i64 c.p) ∧ w.cell? ⟨g, off + i * 4 + 1, none⟩ = some (.int .i64 c.f) ∧ w.cell? ⟨g, off + i * 4 + 2, none⟩ = some (.int .i64 c.t) ∧ w.cell? ⟨g, off + i * 4 + 3, none⟩ = some (.int .i64 c.r)

theorem pl_cell {w w' : World} {g o : Nat} {u : Value} (h : w.cell? ⟨g, o, none⟩ = some u) (hb : Below w.heap.size w w') : w'.cell? ⟨g, o, none⟩ = some u :=
  (hb.cell (p := ⟨g, o, none⟩) (World.block_lt_of_cell? w ⟨g, o, none⟩ h)).trans h
theorem Cta.below {w w' : World} {a : Option Addr} {l : List Ct} (h : Cta w a l) (hb : Below w.heap.size w w') : Cta w' a l := by
  rcases h with h | ⟨g, off, ha, h⟩
  · exact .inl h
  · exact .inr ⟨g, off, ha, fun i c hc => ⟨pl_cell (h i c hc).1 hb, pl_cell (h i c hc).2.1 hb, pl_cell (h i c hc).2.2.1 hb, pl_cell (h i c hc).2.2.2 hb⟩⟩
theorem Cta.at {w : World} {a : Option Addr} {l : List Ct} (h : Cta w a l) {k : Nat} {c : Ct} (hk : l[k]? = some c) : ∃ g off, a = some ⟨g, off, none⟩ ∧
    w.cell? ⟨g, off + k * 4, none⟩ = some (.int .i64 c.p) ∧ w.cell? ⟨g, off + k * 4 + 1, none⟩ = some (.int .i64 c.f) ∧ w.cell? ⟨g, off + k * 4 + 2, none⟩ = some (.int .i64 c.t) ∧ w.cell? ⟨g, off + k * 4 + 3, none⟩ = some (.int .i64 c.r) := by
  rcases h with rfl | ⟨g, off, ha, h⟩
  · simp at hk
  · exact ⟨g, off, ha, h k c hk⟩
theorem pl_drop {α : Type} (l : List α) (k : Nat) (x : α) (h : l[k]? = some x) : l.drop k = x :: l.drop (k + 1) := by
  obtain ⟨hk, hx⟩ := List.getElem?_eq_some_iff.mp h
  rw [List.drop_eq_getElem_cons hk, hx]
theorem pl_get {α : Type} (l : List α) (k : Nat) (h : k < l.length) : ∃ x, l[k]? = some x := ⟨l[k], List.getElem?_eq_getElem h⟩
theorem pl_drew {B : Nat} {w wr : World} (h : Below B w wr) (n : Nat) : Below B w (wr.drewN n) := ⟨h.os, h.tape, h.output, h.size, h.block⟩

abbrev ctC (c : Ct) : Array Value := #[.int .i64 c.p, .int .i64 c.f, .int .i64 c.t, .int .i64 c.r]

/-! ## Small ones -/

theorem within_any (x a b : Int) (w : World) : Calls Try.prog 21 #[.int .i64 x, .int .i64 a, .int .i64 b] w fun e w' => e = .returned (.int .i64 (min (max x a) b)) ∧ w' = w := by
  generalize hV : min (max x a) b = V at *
  go_enter Try.func21, Try.ntmps21
  by_cases h1 : x < a
  · by_cases h2 : a ≤ b
    · have HV : Hid (V = a) := by show V = a; omega
      clear hV
      go_wp2
      go_ret
      exact ⟨by rw [HV.out]; rfl, rfl⟩
    · have HV : Hid (V = b) := by show V = b; omega
      clear hV
      go_wp2
      go_ret
      exact ⟨by rw [HV.out]; rfl, rfl⟩
  · by_cases h2 : x ≤ b
    · have HV : Hid (V = x) := by show V = x; omega
      clear hV
      go_wp2
      go_ret
      exact ⟨by rw [HV.out]; rfl, rfl⟩
    · have HV : Hid (V = b) := by show V = b; omega
      clear hV
      go_wp2
      go_ret
      exact ⟨by rw [HV.out]; rfl, rfl⟩
theorem counted_any (x : Int) (w : World) : Calls Try.prog 18 #[.int .i64 x] w fun e w' => e = .returned (.int .i64 (cn x)) ∧ w' = w := by
  have HC := within_any x 0 1099511627776 w
  go_enter Try.func18, Try.ntmps18
  go_wp2_with fail
  refine HC.mono ?_
  rintro e w2 ⟨rfl, rfl⟩
  go_wp2
  go_ret
  exact ⟨rfl, rfl⟩

set_option maxHeartbeats 1000000 in
theorem may9_any (c : Ct) (w : World) : Calls Try.prog 14 #[.agg (ctC c)] w fun e w' => e = .returned (.bool (mayC c)) ∧ Below w.heap.size w w' := by
  obtain ⟨p, f, t, r⟩ := c
  have hb : Below w.heap.size w (w.alloc (.cells #[.int .i64 p, .int .i64 f, .int .i64 t, .int .i64 r] 33)) := (Below.refl _ _).alloc (Nat.le_refl _) _
  have HB : Hid (Below w.heap.size w (w.alloc (.cells #[.int .i64 p, .int .i64 f, .int .i64 t, .int .i64 r] 33))) := hb
  clear hb
  have HV : Hid (mayC ⟨p, f, t, r⟩ = (decide (1 ≤ p) && decide (p ≤ 4611686018427387903) && (decide (0 ≤ f) && decide (f < t) && decide (t ≤ 1099511627776)) && (decide (1 ≤ r) && decide (r ≤ 1000)))) := rfl
  generalize mayC ⟨p, f, t, r⟩ = V at *
  go_enter Try.func14, Try.ntmps14
  go_wp2
  all_goals (
    go_ret
    refine ⟨?_, HB.out⟩
    rw [HV.out]
    first
      | (simp [*]; done)
      | (simp [*]; intros; omega)
      | (simp; intros; omega))

end Go.Proofs.Ytjolflpmeodnaai
