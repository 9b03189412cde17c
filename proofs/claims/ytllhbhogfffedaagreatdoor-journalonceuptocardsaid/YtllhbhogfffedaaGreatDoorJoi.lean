import Derived.Test.YtllhbhogfffedaaGreatDoorSpn
import Derived.Maps.AppendAt
import Derived.OwnWalk
import Derived.Laws.OwnMore
import Derived.WalkSmall
namespace Go.Proofs.YtllhbhogfffedaaGreatDoor.C
open Go.RowKit

def spc (p : Sp) : List Value := [.int .i64 p.1, .int .i64 p.2]
theorem Tryz.info_span : (Tryz.prog.info? 128).map (fun i => (i.zero, i.size, i.bytes)) = some (some (.agg #[.int .i64 0, .int .i64 0]), 2, 16) := by kernel_rfl

/-- A row of spans of the call's own. -/
def SOwn (w : World) (base : Nat) (v : Value) (l : List Sp) : Prop := w.ownsRow base 128 2 v l.length (l.flatMap spc)

theorem own_shape {w : World} {base n sz : Nat} {e : TypeId} {v : Value} {xs : List Value} (h : w.ownsRow base e sz v n xs) : ∃ a cap, v = .slice a n cap := by
  obtain ⟨_, ⟨rfl, rfl⟩ | ⟨g, cap, cur, rfl, _⟩⟩ := h
  · exact ⟨none, 0, rfl⟩
  · exact ⟨_, cap, rfl⟩
theorem own_some {w : World} {base n sz : Nat} {e : TypeId} {v : Value} {xs : List Value} (h : w.ownsRow base e sz v n xs) (hn : 0 < n) : ∃ g cap, v = .slice (some ⟨g, 0, none⟩) n cap := by
  obtain ⟨_, ⟨rfl, rfl⟩ | ⟨g, cap, cur, rfl, _⟩⟩ := h
  · omega
  · exact ⟨g, cap, rfl⟩
theorem spc_get (l : List Sp) (i : Nat) (p : Sp) (h : l[i]? = some p) : (l.flatMap spc)[i * 2]? = some (.int .i64 p.1) ∧ (l.flatMap spc)[i * 2 + 1]? = some (.int .i64 p.2) := by
  induction l generalizing i with
  | nil => simp at h
  | cons s r ih =>
    cases i with
    | zero => simp at h; subst h; simp [spc]
    | succ i =>
      simp at h
      have := ih i h
      rw [List.flatMap_cons, List.getElem?_append_right (by simp [spc]; omega), List.getElem?_append_right (by simp [spc]; omega)]
      simp only [spc, List.length_cons, List.length_nil]
      rw [show (i + 1) * 2 - (0 + 1 + 1) = i * 2 from by omega, show (i + 1) * 2 + 1 - (0 + 1 + 1) = i * 2 + 1 from by omega]
      exact this
theorem spc_len (l : List Sp) : (l.flatMap spc).length = l.length * 2 := by
  induction l with
  | nil => rfl
  | cons s r ih => simp [spc, ih]; omega
theorem spc_set (l : List Sp) (t : Sp) (v : Int) : ((l ++ [t]).flatMap spc).set (l.length * 2 + 1) (.int .i64 v) = (l ++ [(t.1, v)]).flatMap spc := by
  rw [List.flatMap_append, List.flatMap_append, List.set_append_right _ _ (by rw [spc_len]; omega), spc_len, show l.length * 2 + 1 - l.length * 2 = 1 from by omega]
  rfl
theorem SOwn.spa {w : World} {base : Nat} {a : Option Addr} {n c : Nat} {l : List Sp} (h : SOwn w base (.slice a n c) l) : Spa w a l := by
  by_cases hl : l = []
  · exact .inl hl
  · have hp := List.length_pos_iff.mpr hl
    obtain ⟨g, cap, hv⟩ := own_some h hp
    simp only [Value.slice.injEq] at hv
    obtain ⟨rfl, rfl, rfl⟩ := hv
    refine .inr ⟨g, 0, rfl, fun i p hi => ?_⟩
    have hil : i < l.length := (List.getElem?_eq_some_iff.mp hi).1
    obtain ⟨q1, q2⟩ := spc_get l i p hi
    rw [Nat.zero_add]
    exact ⟨(World.ownsRow.cellAt h _ (by omega)).trans q1, (World.ownsRow.cellAt h _ (by omega)).trans q2⟩
theorem cell_two_new (w : World) (x y : Value) (t : TypeId) : ∀ j u, [x, y][j]? = some u → (w.alloc (.cells #[x, y] t)).cell? ((⟨w.heap.size, 0, none⟩ : Addr).add j) = some u := by
  intro j u hj
  match j, hj with
  | 0, hj => simp at hj; subst hj; simp [Addr.add]
  | 1, hj => simp at hj; subst hj; simp [Addr.add]
theorem grown_drewN (w : World) (n : Nat) (row : Option Nat) : w.grownBy (w.drewN n) row := ⟨rfl, rfl, rfl, Nat.le_refl _, fun _ _ _ => rfl⟩
theorem cell_two_at (w : World) (x y : Value) (t : TypeId) (n : Nat) (hn : n = w.heap.size) : ∀ j u, [x, y][j]? = some u → (w.alloc (.cells #[x, y] t)).cell? ((⟨n, 0, none⟩ : Addr).add j) = some u := by
  subst hn; exact cell_two_new _ _ _ _

theorem grown_set (w : World) (g i : Nat) (u : Value) : w.grownBy (w.setCell ⟨g, i, none⟩ u) (some g) :=
  ⟨rfl, rfl, rfl, by simp [World.setCell], fun k _ hne => Below.heap_setCell _ _ _ _ (fun e => hne (by rw [e]))⟩

def JoinPost (w : World) (base : Nat) (v : Value) (l : List Sp) (e : Ending) (w' : World) : Prop := ∃ v', e = .returned v' ∧ SOwn w' base v' l ∧ w.grownBy w' v.ownBlock

theorem SOwn.last {w : World} {base : Nat} {v : Value} {l : List Sp} {u : Sp} (h : SOwn w base v (l ++ [u])) : ∃ g cap, v = .slice (some ⟨g, 0, none⟩) (l.length + 1) cap ∧ base ≤ g ∧ g < w.heap.size ∧ w.cell? ⟨g, l.length * 2, none⟩ = some (.int .i64 u.1) ∧ w.cell? ⟨g, l.length * 2 + 1, none⟩ = some (.int .i64 u.2) ∧ (∀ j, w.frozen? ⟨g, j, none⟩ = false) ∧ ∀ x : Int, SOwn (w.setCell ⟨g, l.length * 2 + 1, none⟩ (.int .i64 x)) base v (l ++ [(u.1, x)]) := by
  obtain ⟨g, cap, hv⟩ := own_some h (by simp)
  have hlen : (l ++ [u]).length = l.length + 1 := by simp
  obtain ⟨q1, q2⟩ := spc_get (l ++ [u]) l.length u (by simp)
  have h' := h
  unfold SOwn at h'
  rw [hlen] at h' hv
  subst hv
  have hl := World.ownsRow.lt h' g rfl
  refine ⟨g, cap, rfl, hl.1, hl.2, (World.ownsRow.cellAt h' _ (by omega)).trans q1, (World.ownsRow.cellAt h' _ (by omega)).trans q2, fun j => World.ownsRow.frozenAt h' j, fun x => ?_⟩
  have := (World.ownsRow.stored h' (l.length * 2 + 1) (.int .i64 x)).1
  rw [spc_set] at this
  unfold SOwn
  rw [show (l ++ [(u.1, x)]).length = l.length + 1 from by simp]
  exact this

end Go.Proofs.YtllhbhogfffedaaGreatDoor.C

namespace Go.Proofs.YtllhbhogfffedaaGreatDoor.C
open Go.RowKit

def lenV : Value → Nat
  | .slice _ n _ => n
  | _ => 0

theorem SOwn.drewN {w : World} {base : Nat} {v : Value} {l : List Sp} (h : SOwn w base v l) (n : Nat) : SOwn (w.drewN n) base v l := h
theorem SOwn.lt {w : World} {base : Nat} {v : Value} {l : List Sp} (h : SOwn w base v l) : ∀ k, v.ownBlock = some k → base ≤ k ∧ k < w.heap.size := World.ownsRow.lt h
theorem SOwn.shape {w : World} {base : Nat} {v : Value} {l : List Sp} (h : SOwn w base v l) : ∃ a c, v = .slice a l.length c := own_shape h
theorem SOwn.below {w w' : World} {base : Nat} {v : Value} {l : List Sp} (h : SOwn w base v l) (hb : Below w.heap.size w w') : SOwn w' base v l := by
  refine ⟨h.1, ?_⟩
  rcases h.2 with hn | ⟨g, cap, cur, hv, h1, h2, h3⟩
  · exact .inl hn
  · have hg : g < w.heap.size := (h.lt g (by rw [hv]; rfl)).2
    exact .inr ⟨g, cap, cur, hv, h1, (hb.block g hg).trans h2, h3⟩
theorem SOwn.base {w : World} {base base' : Nat} {v : Value} {l : List Sp} (h : SOwn w base v l) (hb : base' ≤ base) : SOwn w base' v l := by
  refine ⟨h.1, ?_⟩
  rcases h.2 with hn | ⟨g, cap, cur, hv, h1, h2, h3⟩
  · exact .inl hn
  · exact .inr ⟨g, cap, cur, hv, by omega, h2, h3⟩

theorem Spa.tail {w : World} {g off : Nat} {p : Sp} {r : List Sp} (h : Spa w (some ⟨g, off, none⟩) (p :: r)) : Spa w (some ⟨g, off + 2, none⟩) r := by
  rcases h with h | ⟨g', off', ha, h⟩
  · cases h
  · simp only [Option.some.injEq, Addr.mk.injEq, and_true] at ha
    obtain ⟨rfl, rfl⟩ := ha
    refine .inr ⟨g, off + 2, rfl, fun i q hq => ?_⟩
    have := h (i + 1) q (by simpa using hq)
    rw [show off + (i + 1) * 2 = off + 2 + i * 2 from by omega] at this
    exact this
def MergePost (w : World) (l m : List Sp) (e : Ending) (w' : World) : Prop := ∃ v u, e = .returned v ∧ SOwn w' w.heap.size v u ∧ Uni l m u ∧ Below w.heap.size w w'

end Go.Proofs.YtllhbhogfffedaaGreatDoor.C

namespace Go.Proofs.YtllhbhogfffedaaGreatDoor.C
open Go.RowKit

def eqB (l m : List Sp) : Bool := decide (l = m)

end Go.Proofs.YtllhbhogfffedaaGreatDoor.C

namespace Go.Proofs.YtllhbhogfffedaaGreatDoor.C
open Go.RowKit

/-- A value that holds a list of spans. -/
structure Ls (w : World) (v : Value) (l : List Sp) : Prop where
  shape : ∃ a c, v = .slice a l.length c ∧ Spa w a l ∧ l.length ≤ c ∧ c ≤ 9223372036854775807
  small : l.length ≤ 9223372036854775807
theorem Ls.below {w w' : World} {v : Value} {l : List Sp} (h : Ls w v l) (hb : Below w.heap.size w w') : Ls w' v l := by
  obtain ⟨a, c, hv, hs, h1, h2⟩ := h.shape
  exact ⟨⟨a, c, hv, hs.below hb, h1, h2⟩, h.small⟩
theorem SOwn.ls {w : World} {base : Nat} {v : Value} {l : List Sp} (h : SOwn w base v l) (hm : l.length ≤ 9223372036854775807) : Ls w v l := by
  obtain ⟨a, c, rfl⟩ := h.shape
  refine ⟨⟨a, c, rfl, h.spa, ?_⟩, hm⟩
  rcases h.2 with ⟨hv, hn⟩ | ⟨g, cap, cur, hv, _, _, h1, h2, _⟩
  · simp only [Value.slice.injEq] at hv; obtain ⟨_, _, rfl⟩ := hv; omega
  · simp only [Value.slice.injEq] at hv; obtain ⟨_, _, rfl⟩ := hv; unfold maxLen at h2; omega
theorem Ls.nil (w : World) : Ls w (.slice none 0 0) [] := ⟨⟨none, 0, rfl, .inl rfl, by simp, by omega⟩, by simp⟩
theorem SOwn.nil (w : World) (base : Nat) : SOwn w base (.slice none 0 0) [] := World.ownsRow_nil _ _ _ _

theorem right_ls {v : Value} {l : List Sp} {w : World} (h : Ls w v l) : Calls Tryz.prog 137 #[v] w fun e w' => e = .returned (.bool (setB l)) ∧ Below w.heap.size w w' := by
  obtain ⟨a, c, rfl, hs, _, _⟩ := h.shape; exact right_any a c l w hs h.small
/-- What Union answers. -/
def UR (l m u : List Sp) (er : Int) : Prop := (¬ (IsSet l ∧ IsSet m) ∧ er = 30 ∧ u = []) ∨ (IsSet l ∧ IsSet m ∧ ∃ U, Uni l m U ∧ ((U.length ≤ 2000 ∧ er = 0 ∧ u = U) ∨ (2000 < U.length ∧ er = 3 ∧ u = [])))
theorem UR.len {l m u : List Sp} {er : Int} (h : UR l m u er) : u.length ≤ 2000 := by
  rcases h with ⟨_, _, rfl⟩ | ⟨_, _, U, _, ⟨h, _, rfl⟩ | ⟨_, _, rfl⟩⟩
  · simp
  · exact h
  · simp
theorem UR.ok {l m u : List Sp} {er : Int} (h : UR l m u er) (he : er = 0) : IsSet l ∧ IsSet m ∧ Uni l m u ∧ IsSet u := by
  rcases h with ⟨_, h, _⟩ | ⟨h1, h2, U, h3, ⟨h4, _, rfl⟩ | ⟨_, h, _⟩⟩
  · omega
  · exact ⟨h1, h2, h3, h4, h3.rt⟩
  · omega

def UnionPost (l m : List Sp) (w : World) (e : Ending) (w' : World) : Prop := ∃ v u er, e = .returned (.tuple #[v, .int .i64 er]) ∧ SOwn w' w.heap.size v u ∧ UR l m u er ∧ Below w.heap.size w w'

/-- What Add answers. -/
def AR (l : List Sp) (s : Sp) (u : List Sp) (n er : Int) : Prop := UR l [s] u er ∧ ((er = 0 ∧ n = siz u - siz l) ∨ (er ≠ 0 ∧ n = 0))
def AddPost (l : List Sp) (s : Sp) (w : World) (e : Ending) (w' : World) : Prop := ∃ v u n er, e = .returned (.tuple #[v, .int .i64 n, .int .i64 er]) ∧ SOwn w' w.heap.size v u ∧ AR l s u n er ∧ Below w.heap.size w w'

end Go.Proofs.YtllhbhogfffedaaGreatDoor.C

namespace Go.Proofs.YtllhbhogfffedaaGreatDoor.C
open Go.RowKit

/-- Where the next span may begin. -/
def lsx (l : List Sp) (k : Nat) : Int := match k with
  | 0 => 0
  | k + 1 => (l.getD k (0, 0)).2 + 1

end Go.Proofs.YtllhbhogfffedaaGreatDoor.C
