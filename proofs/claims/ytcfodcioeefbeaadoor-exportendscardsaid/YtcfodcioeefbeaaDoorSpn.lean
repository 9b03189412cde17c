import Derived.Test.YtcfodcioeefbeaaDoorChecked
import Derived.Test.YtcfodcioeefbeaaDoorClmMath
import Derived.WalkKit
import Derived.WalkSpells
import Derived.WalkMore
import Derived.Deep.LoopGhost
import Derived.WalkLawsBesides
import Derived.Laws.Rows
import Derived.Deep.QuietTactic
import Derived.BigQuiet
import Derived.WalkSmall
namespace Go.Proofs.YtcfodcioeefbeaaDoor.C
open Go.RowKit

/-! ## Memory -/

/-- Spans lie at a slice's head. -/
structure CIn (w : World) (v : Value) (cl : List Sp) : Prop where
  shape : ∃ a c, v = .slice a cl.length c ∧ (cl = [] ∨ ∃ g off, a = some ⟨g, off, none⟩ ∧ ∀ (i : Nat) (p : Sp), cl[i]? = some p → w.cell? ⟨g, off + i * 2, none⟩ = some (.int .i64 p.1) ∧ w.cell? ⟨g, off + i * 2 + 1, none⟩ = some (.int .i64 p.2))
  small : cl.length ≤ 1048576

/-- What the walks take of it. -/
def Spa (w : World) (a : Option Addr) (cl : List Sp) : Prop := cl = [] ∨ ∃ g off, a = some ⟨g, off, none⟩ ∧ ∀ (i : Nat) (p : Sp), cl[i]? = some p → w.cell? ⟨g, off + i * 2, none⟩ = some (.int .i64 p.1) ∧ w.cell? ⟨g, off + i * 2 + 1, none⟩ = some (.int .i64 p.2)

theorem cell_below {w w' : World} {g o : Nat} {u : Value} (h : w.cell? ⟨g, o, none⟩ = some u) (hb : Below w.heap.size w w') : w'.cell? ⟨g, o, none⟩ = some u :=
  (hb.cell (p := ⟨g, o, none⟩) (World.block_lt_of_cell? w ⟨g, o, none⟩ h)).trans h
theorem Spa.below {w w' : World} {a : Option Addr} {cl : List Sp} (h : Spa w a cl) (hb : Below w.heap.size w w') : Spa w' a cl := by
  rcases h with h | ⟨g, off, ha, h⟩
  · exact .inl h
  · exact .inr ⟨g, off, ha, fun i p hp => ⟨cell_below (h i p hp).1 hb, cell_below (h i p hp).2 hb⟩⟩
theorem CIn.below {w w' : World} {v : Value} {cl : List Sp} (h : CIn w v cl) (hb : Below w.heap.size w w') : CIn w' v cl := by
  obtain ⟨a, c, hv, hs⟩ := h.shape
  exact ⟨⟨a, c, hv, Spa.below hs hb⟩, h.small⟩
theorem Spa.at {w : World} {a : Option Addr} {cl : List Sp} (h : Spa w a cl) {k : Nat} {p : Sp} (hk : cl[k]? = some p) : ∃ g off, a = some ⟨g, off, none⟩ ∧ w.cell? ⟨g, off + k * 2, none⟩ = some (.int .i64 p.1) ∧ w.cell? ⟨g, off + k * 2 + 1, none⟩ = some (.int .i64 p.2) := by
  rcases h with rfl | ⟨g, off, ha, h⟩
  · simp at hk
  · exact ⟨g, off, ha, h k p hk⟩
theorem drop_get {α : Type} (l : List α) (k : Nat) (x : α) (h : l[k]? = some x) : l.drop k = x :: l.drop (k + 1) := by
  obtain ⟨hk, hx⟩ := List.getElem?_eq_some_iff.mp h
  rw [List.drop_eq_getElem_cons hk, hx]
theorem get_some {α : Type} (l : List α) (k : Nat) (h : k < l.length) : ∃ x, l[k]? = some x := ⟨l[k], List.getElem?_eq_getElem h⟩

theorem grown_trans {a b c : World} {row : Option Nat} (h : a.grownBy b row) (h' : b.grownBy c row) : a.grownBy c row :=
  ⟨h'.os.trans h.os, h'.tape.trans h.tape, h'.output.trans h.output, Nat.le_trans h.size h'.size, fun k hk hne => (h'.block k (Nat.lt_of_lt_of_le hk h.size) hne).trans (h.block k hk hne)⟩
theorem heap_alloc_new' (w : World) (o : Obj) : (w.alloc o).heap[w.heap.size]? = some o := by
  have : (w.alloc o).heap = w.heap.push o := rfl
  rw [this]; simp
theorem box0 (w : World) (x y : Value) (t : TypeId) : (w.alloc (.cells #[x, y] t)).cell? ⟨w.heap.size, 0, none⟩ = some x := by simp
theorem box1 (w : World) (x y : Value) (t : TypeId) : (w.alloc (.cells #[x, y] t)).cell? ⟨w.heap.size, 1, none⟩ = some y := by simp

/-! ## Is it a set? -/
def askB (s : Sp) : Bool := decide (0 ≤ s.1) && (decide (s.1 ≤ s.2) && decide (s.2 ≤ 4611686018427387903))
def mayB (s : Sp) : Bool := askB s && decide (s.1 < s.2)
theorem askB_iff {s : Sp} : askB s = true ↔ Asked s := by simp [askB, Asked]
def rtB : Int → List Sp → Bool
  | _, [] => true
  | lo, s :: r => mayB s && (decide (lo ≤ s.1) && rtB (s.2 + 1) r)
theorem rtB_iff : ∀ {l : List Sp} {lo : Int}, 0 ≤ lo → (rtB lo l = true ↔ Rt lo l)
  | [], _, _ => by simp [rtB, Rt]
  | s :: r, lo, h => by
    simp only [rtB, Rt, mayB, askB, Bool.and_eq_true, decide_eq_true_eq]
    constructor
    · rintro ⟨⟨⟨a, b, c⟩, d⟩, e, f⟩
      exact ⟨e, d, c, (rtB_iff (by omega)).mp f⟩
    · rintro ⟨a, b, c, d⟩
      exact ⟨⟨⟨by omega, by omega, c⟩, b⟩, a, (rtB_iff (by omega)).mpr d⟩
def setB (l : List Sp) : Bool := decide (l.length ≤ 2000) && rtB 0 l
theorem setB_iff {l : List Sp} : setB l = true ↔ IsSet l := by
  simp only [setB, IsSet, Bool.and_eq_true, decide_eq_true_eq, rtB_iff (Int.le_refl 0)]

end Go.Proofs.YtcfodcioeefbeaaDoor.C

namespace Go.Proofs.YtcfodcioeefbeaaDoor.C
open Go.RowKit

end Go.Proofs.YtcfodcioeefbeaaDoor.C

namespace Go.Proofs.YtcfodcioeefbeaaDoor.C
open Go.RowKit

/-- How many bytes a set has. -/
def szB (l : List Sp) : Int := if setB l then siz l else 0

theorem siz_take {l : List Sp} {k : Nat} {p : Sp} (h : l[k]? = some p) : siz (l.take (k + 1)) = siz (l.take k) + (p.2 - p.1) := by
  rw [List.take_add_one, h, siz_append]; simp [siz]
theorem siz_bound {l : List Sp} (h : IsSet l) (k : Nat) : 0 ≤ siz (l.take k) ∧ siz (l.take k) ≤ 4611686018427387904 := by
  have hr : Rt 0 (l.take k) := Rt.cut (l := l.drop k) (by rw [List.take_append_drop]; exact h.2)
  have := siz_pos hr
  have := siz_most hr (by omega)
  omega

end Go.Proofs.YtcfodcioeefbeaaDoor.C
