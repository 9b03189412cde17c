import Derived.Test.YtdfdaambfihjaaaDoorItr
import Derived.Laws.CopyOwn
import Derived.Test.YtdfdaambfihjaaaDoorClmMath
import Derived.WalkSmall
namespace Go.Proofs.YtdfdaambfihjaaaDoor.C
open Go.RowKit Go.Shelf
attribute [local go_sem] Oper.semAt_some

/-- What gather's loop keeps: the box of the set (S), that of had (Hb), that of the span (Sb); the row lies from N on. -/
structure GI (S Hb Sb N : Nat) (w : World) (f t : Int) (had : Bool) (pre : List Pz) (W : World) : Prop where
  row : ∃ v, Boxed W S 35 v ∧ SOwn W N v (pick had pre)
  hb : Boxed W Hb 4 (.bool had)
  sb : W.heap[Sb]? = some (.cells #[.int .i64 f, .int .i64 t] 91 (0, 0))
  low : Below w.heap.size w W
  big : N ≤ W.heap.size

/-- What is told of a list that may be too long. -/
def BR (U u : List Sp) (er : Int) : Prop := (U.length ≤ 2000 ∧ er = 0 ∧ u = U) ∨ (2000 < U.length ∧ er = 3 ∧ u = [])
def GPost (U : List Sp) (w : World) (e : Ending) (w' : World) : Prop := ∃ v u er, e = .returned (.tuple #[v, .int .i64 er]) ∧ SOwn w' w.heap.size v u ∧ BR U u er ∧ Below w.heap.size w w'

end Go.Proofs.YtdfdaambfihjaaaDoor.C

namespace Go.Proofs.YtdfdaambfihjaaaDoor.C
open Go.RowKit

/-- What Gaps (had: false) and Within (had: true) answer. -/
def GR (had : Bool) (l : List Sp) (s : Sp) (u : List Sp) (er : Int) : Prop := (¬ (IsSet l ∧ Asked s) ∧ er = 30 ∧ u = []) ∨ (IsSet l ∧ Asked s ∧ BR (pick had (pc s.2 s.1 l)) u er)
def GRPost (had : Bool) (l : List Sp) (s : Sp) (w : World) (e : Ending) (w' : World) : Prop := ∃ v u er, e = .returned (.tuple #[v, .int .i64 er]) ∧ SOwn w' w.heap.size v u ∧ GR had l s u er ∧ Below w.heap.size w w'

/-- Covers. -/
def cvB (l : List Sp) (s : Sp) : Bool := setB l && (askB s && decide (gps l s = []))
end Go.Proofs.YtdfdaambfihjaaaDoor.C

namespace Go.Proofs.YtdfdaambfihjaaaDoor.C
open Go.RowKit

/-- One span is written over another. -/
theorem spc_put : ∀ (L : List Sp) (k : Nat) (a b : Int), ((L.flatMap spc).set (k * 2) (.int .i64 a)).set (k * 2 + 1) (.int .i64 b) = (L.set k (a, b)).flatMap spc
  | [], k, a, b => by simp
  | s :: r, 0, a, b => by simp [spc]
  | s :: r, k + 1, a, b => by
    have := spc_put r k a b
    rw [List.flatMap_cons, List.set_cons_succ, List.flatMap_cons, ← this]
    rw [List.set_append_right _ _ (by simp [spc]; omega), List.set_append_right _ _ (by simp [spc]; omega)]
    congr 1
    simp only [spc, List.length_cons, List.length_nil]
    rw [show (k + 1) * 2 - (0 + 1 + 1) = k * 2 from by omega, show (k + 1) * 2 + 1 - (0 + 1 + 1) = k * 2 + 1 from by omega]

theorem SOwn.put {W : World} {base g cap n k : Nat} {L : List Sp} (h : SOwn W base (.slice (some ⟨g, 0, none⟩) n cap) L) (a b : Int) : SOwn ((W.setCell ⟨g, k * 2, none⟩ (.int .i64 a)).setCell ⟨g, k * 2 + 1, none⟩ (.int .i64 b)) base (.slice (some ⟨g, 0, none⟩) n cap) (L.set k (a, b)) := by
  have hn : n = L.length := by
    obtain ⟨a', c', hv⟩ := h.shape
    simp only [Value.slice.injEq] at hv; exact hv.2.1
  subst hn
  have h1 := (World.ownsRow.stored h (k * 2) (.int .i64 a)).1
  have h2 := (World.ownsRow.stored h1 (k * 2 + 1) (.int .i64 b)).1
  rw [spc_put] at h2
  unfold SOwn
  rw [List.length_set]
  exact h2
theorem SOwn.lenEq {W : World} {base n cap : Nat} {a : Option Addr} {L : List Sp} (h : SOwn W base (.slice a n cap) L) : L.length = n := by
  obtain ⟨a', c', hv⟩ := h.shape
  simp only [Value.slice.injEq] at hv; exact hv.2.1.symm
/-- Its cells, where it has a place k. -/
theorem SOwn.cells {W : World} {base g cap n k : Nat} {L : List Sp} {p : Sp} (h : SOwn W base (.slice (some ⟨g, 0, none⟩) n cap) L) (hk : L[k]? = some p) : W.cell? ⟨g, k * 2, none⟩ = some (.int .i64 p.1) ∧ W.cell? ⟨g, k * 2 + 1, none⟩ = some (.int .i64 p.2) ∧ W.frozen? ⟨g, k * 2, none⟩ = false ∧ W.frozen? ⟨g, k * 2 + 1, none⟩ = false := by
  have hn := h.lenEq
  subst hn
  have hkl : k < L.length := (List.getElem?_eq_some_iff.mp hk).1
  obtain ⟨q1, q2⟩ := spc_get L k p hk
  exact ⟨(World.ownsRow.cellAt h _ (by omega)).trans q1, (World.ownsRow.cellAt h _ (by omega)).trans q2, World.ownsRow.frozenAt h _, World.ownsRow.frozenAt h _⟩

theorem made_spans (n : Nat) : (madeCells (Value.cells (.agg #[.int .i64 0, .int .i64 0])) (n * 2)).toList = (List.replicate n ((0 : Int), (0 : Int))).flatMap spc := by
  apply List.ext_getElem?
  intro j
  by_cases hj : j < n * 2
  · have hr : (List.replicate n ((0 : Int), (0 : Int)))[j / 2]? = some (0, 0) := by rw [List.getElem?_replicate, if_pos (by omega)]
    obtain ⟨q1, q2⟩ := spc_get _ _ _ hr
    have e0 : (madeCells (Value.cells (.agg #[.int .i64 0, .int .i64 0])) (n * 2)).toList[j]? = some (.int .i64 0) := by
      simp only [madeCells, Value.cells]
      rcases Nat.mod_two_eq_zero_or_one j with h | h <;> simp [hj, h]
    rw [e0]
    rcases Nat.mod_two_eq_zero_or_one j with h | h
    · rw [show j / 2 * 2 = j from by omega] at q1; exact q1.symm
    · rw [show j / 2 * 2 + 1 = j from by omega] at q2; exact q2.symm
  · rw [List.getElem?_eq_none (by simp [madeCells]; omega), List.getElem?_eq_none (by rw [spc_len]; simp; omega)]

def mkd (l : List Sp) : List Sp := l ++ [(-77, -77), (-77, -77)]
/-- Another set of as many spans. -/
def spd (n : Nat) : List Sp := (List.range n).map fun (i : Nat) => ((4 * (i : Int) + 1, 4 * (i : Int) + 3) : Sp)
end Go.Proofs.YtdfdaambfihjaaaDoor.C

namespace Go.Proofs.YtdfdaambfihjaaaDoor.C
open Go.RowKit

/-- copy of elements of two cells. -/
theorem run_copy_two {P : Program} (w : World) (dT sT ty elem : TypeId) (g dLen dCap : Nat) (a : Addr) (sLen sCap n : Nat) (cur : Array Value) (t : TypeId) (cs : List Value)
    (hu : P.underlying dT = some (.slice elem)) (hs : (P.info? elem).map (·.size) = some 2)
    (hg : w.heap[g]? = some (.cells cur t (0, 0))) (hn : n = Nat.min sLen dLen) (hc : cs.length = n * 2)
    (hsrc : ∀ j v, cs[j]? = some v → w.cell? (a.add j) = some v) (hfit : cs.length ≤ cur.size) (h1 : ∀ v ∈ cs, v.oneCell' = true) :
    (Builtin.copy_ #[dT, sT] ty #[.slice (some ⟨g, 0, none⟩) dLen dCap, .slice (some a) sLen sCap]).run P w =
      .ok (goInt n) (w.setRow g (cs ++ cur.toList.drop cs.length).toArray) := by
  have hl := run_loadCells_list (P := P) w a cs hsrc
  have hst := run_storeCells_at P g 0 t cs 0 cur w hg (by simpa using hfit) h1
  cases hq : P.info? elem with
  | none => simp [hq] at hs
  | some i =>
    have hi : i.size = 2 := by simpa [hq] using hs
    simp [Builtin.copy_, run_underlying hu, Builtin.lenOf, Builtin.firstCells, sizeOf, typeInfo, hq, hi, ← hn, ← hc, hl, hst]
theorem run_copy_zero {P : Program} (w : World) (dT sT ty elem : TypeId) (d : Addr) (dLen dCap : Nat) (s : Option Addr) (sCap : Nat)
    (hu : P.underlying dT = some (.slice elem)) (hs : (P.info? elem).map (·.size) = some 2) :
    (Builtin.copy_ #[dT, sT] ty #[.slice (some d) dLen dCap, .slice s 0 sCap]).run P w = .ok (goInt 0) w := by
  have hl := fun a : Addr => run_loadCells_list (P := P) w a [] (fun j v h => by simp at h)
  cases hq : P.info? elem with
  | none => simp [hq] at hs
  | some i =>
    cases s with
    | none => simp [Builtin.copy_, run_underlying hu, Builtin.lenOf, Builtin.firstCells, sizeOf, typeInfo, hq, storeCells]
    | some a =>
      have := hl a
      simp only [List.length_nil] at this
      simp [Builtin.copy_, run_underlying hu, Builtin.lenOf, Builtin.firstCells, sizeOf, typeInfo, hq, this, storeCells]

theorem spa_cells {W : World} {a : Addr} {l : List Sp} (h : Spa W (some a) l) (hne : l ≠ []) : ∀ j v, (l.flatMap spc)[j]? = some v → W.cell? (a.add j) = some v := by
  rcases h with h | ⟨g, off, ha, hc⟩
  · exact absurd h hne
  · simp only [Option.some.injEq] at ha
    subst ha
    intro j v hj
    have hjl : j < (l.flatMap spc).length := (List.getElem?_eq_some_iff.mp hj).1
    rw [spc_len] at hjl
    obtain ⟨p, hp⟩ := get_some l (j / 2) (by omega)
    obtain ⟨q1, q2⟩ := spc_get l _ p hp
    obtain ⟨r1, r2⟩ := hc _ p hp
    have e : (⟨g, off, none⟩ : Addr).add j = ⟨g, off + j, none⟩ := by unfold Addr.add; split <;> simp_all
    rw [e]
    rcases Nat.mod_two_eq_zero_or_one j with h0 | h0
    · rw [show j / 2 * 2 = j by omega] at q1 r1
      rw [hj] at q1
      rw [r1, ← q1]
    · rw [show j / 2 * 2 + 1 = j by omega] at q2
      rw [show off + j / 2 * 2 + 1 = off + j by omega] at r2
      rw [hj] at q2
      rw [r2, ← q2]
theorem spc_one (l : List Sp) : ∀ u ∈ l.flatMap spc, u.oneCell' = true := by
  intro u hu
  obtain ⟨x, _, hx⟩ := List.mem_flatMap.mp hu
  simp only [spc, List.mem_cons, List.not_mem_nil, or_false] at hx
  rcases hx with rfl | rfl <;> rfl

/-- copy(dst, src) of spans: src's lie at dst's head. -/
theorem wpList_copy_spa {P : Program} {w : World} {ops : Array Oper} {rest : List Oper} {o : Oper} {act : Act} {Q : Exit → Act → World → Prop} (hgd : o.guard = none) (d s : Operand) (dT sT : TypeId)
    (ho : o.op = .call { callee := .builtin .copy, args := #[d, s], argTypes := #[dT, sT] }) (hu : P.underlying dT = some (.slice 91)) (hsz : (P.info? 91).map (·.size) = some 2)
    (g N cap base : Nat) (L0 l : List Sp) (a : Option Addr) (c : Nat) (hd : act.eval d = .slice (some ⟨g, 0, none⟩) N cap) (hs : act.eval s = .slice a l.length c)
    (hown : SOwn w base (.slice (some ⟨g, 0, none⟩) N cap) L0) (hspa : Spa w a l) (hl : l.length ≤ N)
    (h : ∀ w', SOwn w' base (.slice (some ⟨g, 0, none⟩) N cap) (l ++ L0.drop l.length) → w.grownBy w' (some g) → wpList P ops Q rest (act.put o.dst (goInt l.length)) w') :
    wpList P ops Q (o :: rest) act w := by
  have hN := hown.lenEq
  refine wpList_plain hgd fun K hK => ?_
  by_cases hne : l = []
  · subst hne
    have hrun := run_copy_zero (P := P) w dT sT o.type _ ⟨g, 0, none⟩ N cap a c hu hsz
    unfold Oper.wp
    simp [execOp, ho, resolve, invoke, builtin, hd, hs, hrun, Result.andThen]
    exact hK _ _ (h w (by simpa using hown) (World.grownBy.refl _ _))
  · have ha : ∃ ad, a = some ad := by
      rcases hspa with h0 | ⟨g', off', h0, _⟩
      · exact absurd h0 hne
      · exact ⟨_, h0⟩
    obtain ⟨ad, rfl⟩ := ha
    obtain ⟨hx, ⟨hv, _⟩ | ⟨g0, cap0, cur, hv, hb0, hg0, hn0, hm0, hc0, ht0⟩⟩ := id hown
    · cases hv
    simp only [Value.slice.injEq, Option.some.injEq, Addr.mk.injEq, and_true] at hv
    obtain ⟨rfl, hN', rfl⟩ := hv
    rw [hN] at hn0 ht0
    have hln : (l.flatMap spc).length = l.length * 2 := spc_len l
    have hrun := run_copy_two (P := P) w dT sT o.type 91 g N cap ad l.length c l.length cur 91 (l.flatMap spc) hu hsz hg0 (by simp [Nat.min_def]; omega) hln (spa_cells hspa hne) (by rw [hln]; omega) (spc_one l)
    generalize hX : l.flatMap spc = X at hrun hln
    unfold Oper.wp
    simp [execOp, ho, resolve, invoke, builtin, hd, hs, hrun, Result.andThen]
    refine hK _ _ (h _ ?_ ?_)
    · refine ⟨by rw [spc_len], .inr ⟨g, cap, _, ?_, hb0, setRow_heap w g _ _ _ _ hg0, ?_, hm0, ?_, ?_⟩⟩
      · congr 1; simp; omega
      · simp; omega
      · simp only [List.size_toArray, List.length_append, List.length_drop, Array.length_toList]
        omega
      · have e1 : (l ++ L0.drop l.length).length = N := by simp; omega
        rw [e1, List.flatMap_append, hX]
        have e2 : (L0.drop l.length).flatMap spc = (L0.flatMap spc).drop (l.length * 2) := by
          have : L0.flatMap spc = (L0.take l.length).flatMap spc ++ (L0.drop l.length).flatMap spc := by rw [← List.flatMap_append, List.take_append_drop]
          rw [this, List.drop_left' (by rw [spc_len]; simp; omega)]
        rw [e2, ← ht0, ← hln]
        rw [List.take_append, List.take_of_length_le (by rw [hln]; omega), List.drop_take]
    · refine ⟨rfl, rfl, rfl, by simp [World.setRow], fun j hj hne' => ?_⟩
      simp only [World.setRow]
      rw [Array.getElem?_modify, if_neg (fun e => hne' (by rw [e]))]

end Go.Proofs.YtdfdaambfihjaaaDoor.C

namespace Go.Proofs.YtdfdaambfihjaaaDoor.C
open Go.RowKit

/-- Where the next span may begin. -/
def lst (l : List Sp) (k : Nat) : Int := match k with
  | 0 => 0
  | k + 1 => (l.getD k (0, 0)).2 + 1

end Go.Proofs.YtdfdaambfihjaaaDoor.C

namespace Go.Proofs.YtdfdaambfihjaaaDoor.C
open Go.RowKit

end Go.Proofs.YtdfdaambfihjaaaDoor.C

namespace Go.Proofs.YtdfdaambfihjaaaDoor.C
open Go.RowKit

abbrev Pz' := Sp × Bool
def pzc (x : Sp × Bool) : List Value := [.int .i64 x.1.1, .int .i64 x.1.2, .bool x.2]
end Go.Proofs.YtdfdaambfihjaaaDoor.C

namespace Go.Proofs.YtdfdaambfihjaaaDoor.C
open Go.RowKit

end Go.Proofs.YtdfdaambfihjaaaDoor.C

namespace Go.Proofs.YtdfdaambfihjaaaDoor.C
open Go.RowKit

end Go.Proofs.YtdfdaambfihjaaaDoor.C
