import Derived.Test.YtcfodcioeefbeaaDoorSpn
import Derived.Maps.AppendAt
import Derived.OwnWalk
import Derived.Laws.OwnMore
namespace Go.Proofs.YtcfodcioeefbeaaDoor.C
open Go.RowKit

def spc (p : Sp) : List Value := [.int .i64 p.1, .int .i64 p.2]
theorem Tryd.info_span : (Tryd.prog.info? 113).map (fun i => (i.zero, i.size, i.bytes)) = some (some (.agg #[.int .i64 0, .int .i64 0]), 2, 16) := by kernel_rfl

/-- A row of spans of the call's own. -/
def SOwn (w : World) (base : Nat) (v : Value) (l : List Sp) : Prop := w.ownsRow base 113 2 v l.length (l.flatMap spc)

theorem own_shape {w : World} {base n sz : Nat} {e : TypeId} {v : Value} {xs : List Value} (h : w.ownsRow base e sz v n xs) : ∃ a cap, v = .slice a n cap := by
  obtain ⟨_, ⟨rfl, rfl⟩ | ⟨g, cap, cur, rfl, _⟩⟩ := h
  · exact ⟨none, 0, rfl⟩
  · exact ⟨_, cap, rfl⟩
theorem own_some {w : World} {base n sz : Nat} {e : TypeId} {v : Value} {xs : List Value} (h : w.ownsRow base e sz v n xs) (hn : 0 < n) : ∃ g cap, v = .slice (some ⟨g, 0, none⟩) n cap := by
  obtain ⟨_, ⟨rfl, rfl⟩ | ⟨g, cap, cur, rfl, _⟩⟩ := h
  · omega
  · exact ⟨g, cap, rfl⟩
theorem spc_get (l : List Sp) (i : Nat) (p : Sp) (h : l[i]? = some p) : (l.flatMap spc)[i * 2]? = some (.int .i64 p.1) ∧ (l.flatMap spc)[i * 2 + 1]? = some (.int .i64 p.2) := by
  induction l generalizing i with
  | nil => simp at h
  | cons s r ih =>
    cases i with
    | zero => simp at h; subst h; simp [spc]
    | succ i =>
      simp at h
      have := ih i h
      rw [List.flatMap_cons, List.getElem?_append_right (by simp [spc]; omega), List.getElem?_append_right (by simp [spc]; omega)]
      simp only [spc, List.length_cons, List.length_nil]
      rw [show (i + 1) * 2 - (0 + 1 + 1) = i * 2 from by omega, show (i + 1) * 2 + 1 - (0 + 1 + 1) = i * 2 + 1 from by omega]
      exact this
theorem spc_len (l : List Sp) : (l.flatMap spc).length = l.length * 2 := by
  induction l with
  | nil => rfl
  | cons s r ih => simp [spc, ih]; omega
theorem spc_set (l : List Sp) (t : Sp) (v : Int) : ((l ++ [t]).flatMap spc).set (l.length * 2 + 1) (.int .i64 v) = (l ++ [(t.1, v)]).flatMap spc := by
  rw [List.flatMap_append, List.flatMap_append, List.set_append_right _ _ (by rw [spc_len]; omega), spc_len, show l.length * 2 + 1 - l.length * 2 = 1 from by omega]
  rfl
theorem SOwn.spa {w : World} {base : Nat} {a : Option Addr} {n c : Nat} {l : List Sp} (h : SOwn w base (.slice a n c) l) : Spa w a l := by
  by_cases hl : l = []
  · exact .inl hl
  · have hp := List.length_pos_iff.mpr hl
    obtain ⟨g, cap, hv⟩ := own_some h hp
    simp only [Value.slice.injEq] at hv
    obtain ⟨rfl, rfl, rfl⟩ := hv
    refine .inr ⟨g, 0, rfl, fun i p hi => ?_⟩
    have hil : i < l.length := (List.getElem?_eq_some_iff.mp hi).1
    obtain ⟨q1, q2⟩ := spc_get l i p hi
    rw [Nat.zero_add]
    exact ⟨(World.ownsRow.cellAt h _ (by omega)).trans q1, (World.ownsRow.cellAt h _ (by omega)).trans q2⟩
theorem cell_two_new (w : World) (x y : Value) (t : TypeId) : ∀ j u, [x, y][j]? = some u → (w.alloc (.cells #[x, y] t)).cell? ((⟨w.heap.size, 0, none⟩ : Addr).add j) = some u := by
  intro j u hj
  match j, hj with
  | 0, hj => simp at hj; subst hj; simp [Addr.add]
  | 1, hj => simp at hj; subst hj; simp [Addr.add]
theorem grown_alloc (w : World) (o : Obj) (row : Option Nat) : w.grownBy (w.alloc o) row :=
  ⟨rfl, rfl, rfl, by simp, fun k hk _ => Below.heap_alloc w o k hk⟩
theorem grown_drewN (w : World) (n : Nat) (row : Option Nat) : w.grownBy (w.drewN n) row := ⟨rfl, rfl, rfl, Nat.le_refl _, fun _ _ _ => rfl⟩
theorem grown_drew (w : World) (row : Option Nat) : w.grownBy w.drew row := ⟨rfl, rfl, rfl, Nat.le_refl _, fun _ _ _ => rfl⟩

theorem cell_two_at (w : World) (x y : Value) (t : TypeId) (n : Nat) (hn : n = w.heap.size) : ∀ j u, [x, y][j]? = some u → (w.alloc (.cells #[x, y] t)).cell? ((⟨n, 0, none⟩ : Addr).add j) = some u := by
  subst hn; exact cell_two_new _ _ _ _

theorem grown_set (w : World) (g i : Nat) (u : Value) : w.grownBy (w.setCell ⟨g, i, none⟩ u) (some g) :=
  ⟨rfl, rfl, rfl, by simp [World.setCell], fun k _ hne => Below.heap_setCell _ _ _ _ (fun e => hne (by rw [e]))⟩

def JoinPost (w : World) (base : Nat) (v : Value) (l : List Sp) (e : Ending) (w' : World) : Prop := ∃ v', e = .returned v' ∧ SOwn w' base v' l ∧ w.grownBy w' v.ownBlock

theorem SOwn.last {w : World} {base : Nat} {v : Value} {l : List Sp} {u : Sp} (h : SOwn w base v (l ++ [u])) : ∃ g cap, v = .slice (some ⟨g, 0, none⟩) (l.length + 1) cap ∧ base ≤ g ∧ g < w.heap.size ∧ w.cell? ⟨g, l.length * 2, none⟩ = some (.int .i64 u.1) ∧ w.cell? ⟨g, l.length * 2 + 1, none⟩ = some (.int .i64 u.2) ∧ (∀ j, w.frozen? ⟨g, j, none⟩ = false) ∧ ∀ x : Int, SOwn (w.setCell ⟨g, l.length * 2 + 1, none⟩ (.int .i64 x)) base v (l ++ [(u.1, x)]) := by
  obtain ⟨g, cap, hv⟩ := own_some h (by simp)
  have hlen : (l ++ [u]).length = l.length + 1 := by simp
  obtain ⟨q1, q2⟩ := spc_get (l ++ [u]) l.length u (by simp)
  have h' := h
  unfold SOwn at h'
  rw [hlen] at h' hv
  subst hv
  have hl := World.ownsRow.lt h' g rfl
  refine ⟨g, cap, rfl, hl.1, hl.2, (World.ownsRow.cellAt h' _ (by omega)).trans q1, (World.ownsRow.cellAt h' _ (by omega)).trans q2, fun j => World.ownsRow.frozenAt h' j, fun x => ?_⟩
  have := (World.ownsRow.stored h' (l.length * 2 + 1) (.int .i64 x)).1
  rw [spc_set] at this
  unfold SOwn
  rw [show (l ++ [(u.1, x)]).length = l.length + 1 from by simp]
  exact this

end Go.Proofs.YtcfodcioeefbeaaDoor.C

namespace Go.Proofs.YtcfodcioeefbeaaDoor.C
open Go.RowKit

def lenV : Value → Nat
  | .slice _ n _ => n
  | _ => 0

theorem SOwn.drewN {w : World} {base : Nat} {v : Value} {l : List Sp} (h : SOwn w base v l) (n : Nat) : SOwn (w.drewN n) base v l := h
theorem SOwn.lt {w : World} {base : Nat} {v : Value} {l : List Sp} (h : SOwn w base v l) : ∀ k, v.ownBlock = some k → base ≤ k ∧ k < w.heap.size := World.ownsRow.lt h
theorem SOwn.shape {w : World} {base : Nat} {v : Value} {l : List Sp} (h : SOwn w base v l) : ∃ a c, v = .slice a l.length c := own_shape h
theorem SOwn.below {w w' : World} {base : Nat} {v : Value} {l : List Sp} (h : SOwn w base v l) (hb : Below w.heap.size w w') : SOwn w' base v l := by
  refine ⟨h.1, ?_⟩
  rcases h.2 with hn | ⟨g, cap, cur, hv, h1, h2, h3⟩
  · exact .inl hn
  · have hg : g < w.heap.size := (h.lt g (by rw [hv]; rfl)).2
    exact .inr ⟨g, cap, cur, hv, h1, (hb.block g hg).trans h2, h3⟩
theorem SOwn.base {w : World} {base base' : Nat} {v : Value} {l : List Sp} (h : SOwn w base v l) (hb : base' ≤ base) : SOwn w base' v l := by
  refine ⟨h.1, ?_⟩
  rcases h.2 with hn | ⟨g, cap, cur, hv, h1, h2, h3⟩
  · exact .inl hn
  · exact .inr ⟨g, cap, cur, hv, by omega, h2, h3⟩

theorem Spa.tail {w : World} {g off : Nat} {p : Sp} {r : List Sp} (h : Spa w (some ⟨g, off, none⟩) (p :: r)) : Spa w (some ⟨g, off + 2, none⟩) r := by
  rcases h with h | ⟨g', off', ha, h⟩
  · cases h
  · simp only [Option.some.injEq, Addr.mk.injEq, and_true] at ha
    obtain ⟨rfl, rfl⟩ := ha
    refine .inr ⟨g, off + 2, rfl, fun i q hq => ?_⟩
    have := h (i + 1) q (by simpa using hq)
    rw [show off + (i + 1) * 2 = off + 2 + i * 2 from by omega] at this
    exact this
theorem Spa.tail' {w : World} {g off c : Nat} {p : Sp} {r : List Sp} (h : Spa w (some ⟨g, off, none⟩) (p :: r)) (hc : r.length + 1 ≤ c) : Spa w (if c = 1 then some ⟨g, off, none⟩ else some ⟨g, off + 2, none⟩) r := by
  split
  · exact .inl (List.eq_nil_of_length_eq_zero (by omega))
  · exact h.tail
theorem Spa.head {w : World} {a : Option Addr} {p : Sp} {r : List Sp} (h : Spa w a (p :: r)) : ∃ g off, a = some ⟨g, off, none⟩ ∧ w.cell? ⟨g, off, none⟩ = some (.int .i64 p.1) ∧ w.cell? ⟨g, off + 1, none⟩ = some (.int .i64 p.2) := by
  obtain ⟨g, off, ha, h1, h2⟩ := h.at (k := 0) (p := p) rfl
  exact ⟨g, off, ha, by simpa using h1, by simpa using h2⟩

def MergePost (w : World) (l m : List Sp) (e : Ending) (w' : World) : Prop := ∃ v u, e = .returned v ∧ SOwn w' w.heap.size v u ∧ Uni l m u ∧ Below w.heap.size w w'

theorem mg_len {a b out ra rb : List Sp} (h : Mg a b out ra rb) (hm : a.length + b.length ≤ 1048576) : out.length ≤ 1048576 := by have := h.len; omega

end Go.Proofs.YtcfodcioeefbeaaDoor.C
