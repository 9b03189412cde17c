import Derived.Lib.Small
import Derived.Test.YtdfdaambfihjaaaDoorChecked
import Derived.WalkKit
import Derived.WalkSpells
import Derived.WalkMore
import Derived.Deep.LoopGhost
import Derived.WalkLawsBesides
import Derived.Laws.Rows
import Derived.Deep.QuietTactic
import Derived.BigQuiet
import Derived.WalkSmall
import Derived.Maps.AppendAt
import Derived.OwnWalk
import Derived.Laws.OwnMore
namespace Go.Proofs.YtdfdaambfihjaaaDoor.C

abbrev Sp := Int × Int

/-- Spans that may be, in order, a gap between each two; none begins below lo. -/
def Rt : Int → List Sp → Prop
  | _, [] => True
  | lo, s :: r => lo ≤ s.1 ∧ s.1 < s.2 ∧ s.2 ≤ 4611686018427387903 ∧ Rt (s.2 + 1) r

/-- Is a byte one of a span's, of a list's? -/
def inn (s : Sp) (x : Int) : Bool := decide (s.1 ≤ x) && decide (x < s.2)
def has : List Sp → Int → Bool
  | [], _ => false
  | s :: r, x => inn s x || has r x

def IsSet (l : List Sp) : Prop := l.length ≤ 2000 ∧ Rt 0 l

/-! How many bytes. -/
def siz : List Sp → Int
  | [] => 0
  | s :: r => (s.2 - s.1) + siz r
def cnt (p : Int → Bool) : Nat → Nat
  | 0 => 0
  | n + 1 => cnt p n + (if p n then 1 else 0)
/-! Two sets are put together. -/

/-- A span is put to spans of which none begins behind it. -/
def jo (l : List Sp) (s : Sp) : List Sp :=
  match l.getLast? with
  | none => l ++ [s]
  | some t => if t.2 < s.1 then l ++ [s] else l.dropLast ++ [(t.1, max t.2 s.2)]

/-- What is out, and what is left of both. -/
structure Mg (a b out ra rb : List Sp) : Prop where
  rt : Rt 0 out
  all : ∀ x, (has out x || has ra x || has rb x) = (has a x || has b x)
  okA : Rt 0 ra
  okB : Rt 0 rb
  order : ∀ t ∈ out, (∀ s ∈ ra, t.1 ≤ s.1) ∧ ∀ s ∈ rb, t.1 ≤ s.1
  len : out.length + (ra.length + rb.length) ≤ a.length + b.length

/-- u is what is in one of both, or in both. -/
structure Uni (a b u : List Sp) : Prop where
  rt : Rt 0 u
  all : ∀ x, has u x = (has a x || has b x)
  len : u.length ≤ a.length + b.length
end Go.Proofs.YtdfdaambfihjaaaDoor.C

namespace Go.Proofs.YtdfdaambfihjaaaDoor.C

/-- The pieces from p up to hi: those that are of the list, and those that are not. -/
def pc (hi : Int) : Int → List Sp → List (Sp × Bool)
  | p, [] => if p < hi then [((p, hi), false)] else []
  | p, x :: r => if min x.2 hi ≤ max x.1 p then pc hi p r else (if p < max x.1 p then [((p, max x.1 p), false)] else []) ++ ((max x.1 p, min x.2 hi), true) :: pc hi (min x.2 hi) r

def pick (b : Bool) : List (Sp × Bool) → List Sp
  | [] => []
  | s :: r => if s.2 = b then s.1 :: pick b r else pick b r
/-- What both have; what a span has that a list has not. -/
def wth (l : List Sp) (s : Sp) : List Sp := pick true (pc s.2 s.1 l)
def gps (l : List Sp) (s : Sp) : List Sp := pick false (pc s.2 s.1 l)
def Asked (s : Sp) : Prop := 0 ≤ s.1 ∧ s.1 ≤ s.2 ∧ s.2 ≤ 4611686018427387903

/-- The span itself, as a set. -/
def one (s : Sp) : List Sp := if s.1 < s.2 then [s] else []
end Go.Proofs.YtdfdaambfihjaaaDoor.C

namespace Go.Proofs.YtdfdaambfihjaaaDoor.C
open Go.RowKit

/-! ## Memory -/

/-- Spans lie at a slice's head. -/
structure CIn (w : World) (v : Value) (cl : List Sp) : Prop where
  shape : ∃ a c, v = .slice a cl.length c ∧ (cl = [] ∨ ∃ g off, a = some ⟨g, off, none⟩ ∧ ∀ (i : Nat) (p : Sp), cl[i]? = some p → w.cell? ⟨g, off + i * 2, none⟩ = some (.int .i64 p.1) ∧ w.cell? ⟨g, off + i * 2 + 1, none⟩ = some (.int .i64 p.2))
  small : cl.length ≤ 1048576

/-- What the walks take of it. -/
def Spa (w : World) (a : Option Addr) (cl : List Sp) : Prop := cl = [] ∨ ∃ g off, a = some ⟨g, off, none⟩ ∧ ∀ (i : Nat) (p : Sp), cl[i]? = some p → w.cell? ⟨g, off + i * 2, none⟩ = some (.int .i64 p.1) ∧ w.cell? ⟨g, off + i * 2 + 1, none⟩ = some (.int .i64 p.2)

theorem cell_below {w w' : World} {g o : Nat} {u : Value} (h : w.cell? ⟨g, o, none⟩ = some u) (hb : Below w.heap.size w w') : w'.cell? ⟨g, o, none⟩ = some u :=
  (hb.cell (p := ⟨g, o, none⟩) (World.block_lt_of_cell? w ⟨g, o, none⟩ h)).trans h
theorem Spa.below {w w' : World} {a : Option Addr} {cl : List Sp} (h : Spa w a cl) (hb : Below w.heap.size w w') : Spa w' a cl := by
  rcases h with h | ⟨g, off, ha, h⟩
  · exact .inl h
  · exact .inr ⟨g, off, ha, fun i p hp => ⟨cell_below (h i p hp).1 hb, cell_below (h i p hp).2 hb⟩⟩
theorem CIn.below {w w' : World} {v : Value} {cl : List Sp} (h : CIn w v cl) (hb : Below w.heap.size w w') : CIn w' v cl := by
  obtain ⟨a, c, hv, hs⟩ := h.shape
  exact ⟨⟨a, c, hv, Spa.below hs hb⟩, h.small⟩
theorem Spa.at {w : World} {a : Option Addr} {cl : List Sp} (h : Spa w a cl) {k : Nat} {p : Sp} (hk : cl[k]? = some p) : ∃ g off, a = some ⟨g, off, none⟩ ∧ w.cell? ⟨g, off + k * 2, none⟩ = some (.int .i64 p.1) ∧ w.cell? ⟨g, off + k * 2 + 1, none⟩ = some (.int .i64 p.2) := by
  rcases h with rfl | ⟨g, off, ha, h⟩
  · simp at hk
  · exact ⟨g, off, ha, h k p hk⟩
theorem drop_get {α : Type} (l : List α) (k : Nat) (x : α) (h : l[k]? = some x) : l.drop k = x :: l.drop (k + 1) := by
  obtain ⟨hk, hx⟩ := List.getElem?_eq_some_iff.mp h
  rw [List.drop_eq_getElem_cons hk, hx]
theorem get_some {α : Type} (l : List α) (k : Nat) (h : k < l.length) : ∃ x, l[k]? = some x := ⟨l[k], List.getElem?_eq_getElem h⟩

theorem grown_trans {a b c : World} {row : Option Nat} (h : a.grownBy b row) (h' : b.grownBy c row) : a.grownBy c row :=
  ⟨h'.os.trans h.os, h'.tape.trans h.tape, h'.output.trans h.output, Nat.le_trans h.size h'.size, fun k hk hne => (h'.block k (Nat.lt_of_lt_of_le hk h.size) hne).trans (h.block k hk hne)⟩
theorem heap_alloc_new' (w : World) (o : Obj) : (w.alloc o).heap[w.heap.size]? = some o := by
  have : (w.alloc o).heap = w.heap.push o := rfl
  rw [this]; simp
/-! ## Is it a set? -/
def askB (s : Sp) : Bool := decide (0 ≤ s.1) && (decide (s.1 ≤ s.2) && decide (s.2 ≤ 4611686018427387903))
def mayB (s : Sp) : Bool := askB s && decide (s.1 < s.2)
def rtB : Int → List Sp → Bool
  | _, [] => true
  | lo, s :: r => mayB s && (decide (lo ≤ s.1) && rtB (s.2 + 1) r)
def setB (l : List Sp) : Bool := decide (l.length ≤ 2000) && rtB 0 l
end Go.Proofs.YtdfdaambfihjaaaDoor.C

namespace Go.Proofs.YtdfdaambfihjaaaDoor.C
open Go.RowKit

end Go.Proofs.YtdfdaambfihjaaaDoor.C

namespace Go.Proofs.YtdfdaambfihjaaaDoor.C
open Go.RowKit

/-- How many bytes a set has. -/
def szB (l : List Sp) : Int := if setB l then siz l else 0

end Go.Proofs.YtdfdaambfihjaaaDoor.C

namespace Go.Proofs.YtdfdaambfihjaaaDoor.C
open Go.RowKit

def spc (p : Sp) : List Value := [.int .i64 p.1, .int .i64 p.2]
theorem Tryd.info_span : (Tryd.prog.info? 91).map (fun i => (i.zero, i.size, i.bytes)) = some (some (.agg #[.int .i64 0, .int .i64 0]), 2, 16) := by kernel_rfl

/-- A row of spans of the call's own. -/
def SOwn (w : World) (base : Nat) (v : Value) (l : List Sp) : Prop := w.ownsRow base 91 2 v l.length (l.flatMap spc)

theorem own_shape {w : World} {base n sz : Nat} {e : TypeId} {v : Value} {xs : List Value} (h : w.ownsRow base e sz v n xs) : ∃ a cap, v = .slice a n cap := by
  obtain ⟨_, ⟨rfl, rfl⟩ | ⟨g, cap, cur, rfl, _⟩⟩ := h
  · exact ⟨none, 0, rfl⟩
  · exact ⟨_, cap, rfl⟩
theorem own_some {w : World} {base n sz : Nat} {e : TypeId} {v : Value} {xs : List Value} (h : w.ownsRow base e sz v n xs) (hn : 0 < n) : ∃ g cap, v = .slice (some ⟨g, 0, none⟩) n cap := by
  obtain ⟨_, ⟨rfl, rfl⟩ | ⟨g, cap, cur, rfl, _⟩⟩ := h
  · omega
  · exact ⟨g, cap, rfl⟩
theorem spc_get (l : List Sp) (i : Nat) (p : Sp) (h : l[i]? = some p) : (l.flatMap spc)[i * 2]? = some (.int .i64 p.1) ∧ (l.flatMap spc)[i * 2 + 1]? = some (.int .i64 p.2) := by
  induction l generalizing i with
  | nil => simp at h
  | cons s r ih =>
    cases i with
    | zero => simp at h; subst h; simp [spc]
    | succ i =>
      simp at h
      have := ih i h
      rw [List.flatMap_cons, List.getElem?_append_right (by simp [spc]; omega), List.getElem?_append_right (by simp [spc]; omega)]
      simp only [spc, List.length_cons, List.length_nil]
      rw [show (i + 1) * 2 - (0 + 1 + 1) = i * 2 from by omega, show (i + 1) * 2 + 1 - (0 + 1 + 1) = i * 2 + 1 from by omega]
      exact this
theorem spc_len (l : List Sp) : (l.flatMap spc).length = l.length * 2 := by
  induction l with
  | nil => rfl
  | cons s r ih => simp [spc, ih]; omega
theorem cell_two_new (w : World) (x y : Value) (t : TypeId) : ∀ j u, [x, y][j]? = some u → (w.alloc (.cells #[x, y] t)).cell? ((⟨w.heap.size, 0, none⟩ : Addr).add j) = some u := by
  intro j u hj
  match j, hj with
  | 0, hj => simp at hj; subst hj; simp [Addr.add]
  | 1, hj => simp at hj; subst hj; simp [Addr.add]
theorem grown_alloc (w : World) (o : Obj) (row : Option Nat) : w.grownBy (w.alloc o) row :=
  ⟨rfl, rfl, rfl, by simp, fun k hk _ => Below.heap_alloc w o k hk⟩
theorem grown_set (w : World) (g i : Nat) (u : Value) : w.grownBy (w.setCell ⟨g, i, none⟩ u) (some g) :=
  ⟨rfl, rfl, rfl, by simp [World.setCell], fun k _ hne => Below.heap_setCell _ _ _ _ (fun e => hne (by rw [e]))⟩

def JoinPost (w : World) (base : Nat) (v : Value) (l : List Sp) (e : Ending) (w' : World) : Prop := ∃ v', e = .returned v' ∧ SOwn w' base v' l ∧ w.grownBy w' v.ownBlock

end Go.Proofs.YtdfdaambfihjaaaDoor.C

namespace Go.Proofs.YtdfdaambfihjaaaDoor.C
open Go.RowKit

def lenV : Value → Nat
  | .slice _ n _ => n
  | _ => 0

theorem SOwn.lt {w : World} {base : Nat} {v : Value} {l : List Sp} (h : SOwn w base v l) : ∀ k, v.ownBlock = some k → base ≤ k ∧ k < w.heap.size := World.ownsRow.lt h
theorem SOwn.shape {w : World} {base : Nat} {v : Value} {l : List Sp} (h : SOwn w base v l) : ∃ a c, v = .slice a l.length c := own_shape h
theorem SOwn.below {w w' : World} {base : Nat} {v : Value} {l : List Sp} (h : SOwn w base v l) (hb : Below w.heap.size w w') : SOwn w' base v l := by
  refine ⟨h.1, ?_⟩
  rcases h.2 with hn | ⟨g, cap, cur, hv, h1, h2, h3⟩
  · exact .inl hn
  · have hg : g < w.heap.size := (h.lt g (by rw [hv]; rfl)).2
    exact .inr ⟨g, cap, cur, hv, h1, (hb.block g hg).trans h2, h3⟩
def MergePost (w : World) (l m : List Sp) (e : Ending) (w' : World) : Prop := ∃ v u, e = .returned v ∧ SOwn w' w.heap.size v u ∧ Uni l m u ∧ Below w.heap.size w w'

end Go.Proofs.YtdfdaambfihjaaaDoor.C

namespace Go.Proofs.YtdfdaambfihjaaaDoor.C
open Go.RowKit

def eqB (l m : List Sp) : Bool := decide (l = m)

end Go.Proofs.YtdfdaambfihjaaaDoor.C

namespace Go.Proofs.YtdfdaambfihjaaaDoor.C
open Go.RowKit

/-- A value that holds a list of spans. -/
structure Ls (w : World) (v : Value) (l : List Sp) : Prop where
  shape : ∃ a c, v = .slice a l.length c ∧ Spa w a l ∧ l.length ≤ c ∧ c ≤ 9223372036854775807
  small : l.length ≤ 9223372036854775807
/-- What Union answers. -/
def UR (l m u : List Sp) (er : Int) : Prop := (¬ (IsSet l ∧ IsSet m) ∧ er = 30 ∧ u = []) ∨ (IsSet l ∧ IsSet m ∧ ∃ U, Uni l m U ∧ ((U.length ≤ 2000 ∧ er = 0 ∧ u = U) ∨ (2000 < U.length ∧ er = 3 ∧ u = [])))
def UnionPost (l m : List Sp) (w : World) (e : Ending) (w' : World) : Prop := ∃ v u er, e = .returned (.tuple #[v, .int .i64 er]) ∧ SOwn w' w.heap.size v u ∧ UR l m u er ∧ Below w.heap.size w w'

/-- What Add answers. -/
def AR (l : List Sp) (s : Sp) (u : List Sp) (n er : Int) : Prop := UR l [s] u er ∧ ((er = 0 ∧ n = siz u - siz l) ∨ (er ≠ 0 ∧ n = 0))
def AddPost (l : List Sp) (s : Sp) (w : World) (e : Ending) (w' : World) : Prop := ∃ v u n er, e = .returned (.tuple #[v, .int .i64 n, .int .i64 er]) ∧ SOwn w' w.heap.size v u ∧ AR l s u n er ∧ Below w.heap.size w w'

end Go.Proofs.YtdfdaambfihjaaaDoor.C

namespace Go.Proofs.YtdfdaambfihjaaaDoor.C
open Go.RowKit

/-- Where the next span may begin. -/
def lsx (l : List Sp) (k : Nat) : Int := match k with
  | 0 => 0
  | k + 1 => (l.getD k (0, 0)).2 + 1

end Go.Proofs.YtdfdaambfihjaaaDoor.C
