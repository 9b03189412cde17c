import Derived.Test.YtkkmoplijicmpaeDoorGat
import Derived.Test.YtkkmoplijicmpaeDoorSpn
import Derived.WalkSmall
namespace Go.Proofs.YtkkmoplijicmpaeDoor.C
open Go.RowKit Go.Shelf

/-- What Walk answers of a set and a span that may be asked: an iterator over what lies within. -/
def WalkPost (l : List Sp) (f t : Int) (w : World) (e : Ending) (w' : World) : Prop := ∃ Bs Bl a c, e = .returned (.func (.func 145) #[] #[.pointer (some ⟨Bs, 0, none⟩), .pointer (some ⟨Bl, 0, none⟩)]) ∧
  w'.heap[Bs]? = some (.cells #[.int .i64 f, .int .i64 t] 36 (0, 0)) ∧ w'.heap[Bl]? = some (.cells #[.slice a (wth l (f, t)).length c] 26 (0, 0)) ∧ SOwn w' w.heap.size (.slice a (wth l (f, t)).length c) (wth l (f, t)) ∧ w.heap.size ≤ Bs ∧ w.heap.size ≤ Bl ∧ Bs ≠ Bl ∧ Below w.heap.size w w'

set_option maxHeartbeats 2000000 in
theorem walk_any {v : Value} {l : List Sp} {w : World} (f t : Int) (h : Ls w v l) (hq : IsSet l) (ha : Asked (f, t)) :
    Calls Tryd.prog 84 #[v, .agg #[.int .i64 f, .int .i64 t]] w (WalkPost l f t w) := by
  have hwi := within_any f t (h.below (below_box w f t))
  have HW : Hid (∀ u er, GR true l (f, t) u er → er = 0 ∧ u = wth l (f, t)) := fun u er hg => hg.within hq ha
  clear hq ha h
  go_enter Tryd.func84, Tryd.ntmps84
  go_wp2_with fail
  refine hwi.mono ?_
  rintro e w2 ⟨v2, u, er, rfl, hown, hgr, hb2⟩
  obtain ⟨rfl, rfl⟩ := HW.out _ _ hgr
  obtain ⟨a, c, rfl⟩ := hown.shape
  clear hwi HW hgr
  have c0 : w2.cell? ⟨w.heap.size, 0, none⟩ = some (.int .i64 f) := (hb2.cell (p := ⟨w.heap.size, 0, none⟩) (by simp)).trans (box0 _ _ _ _)
  have c1 : w2.cell? ⟨w.heap.size, 1, none⟩ = some (.int .i64 t) := (hb2.cell (p := ⟨w.heap.size, 1, none⟩) (by simp)).trans (box1 _ _ _ _)
  have hp := pieces_any a (wth l (f, t)).length c f t w2
  have HO : Hid (SOwn w2 w.heap.size (.slice a (wth l (f, t)).length c) (wth l (f, t))) := SOwn.base hown (by simp)
  have HB2 : Hid (Below w.heap.size w w2) := (below_box w f t).trans (hb2.mono (by simp))
  clear hown hb2
  generalize hU : wth l (f, t) = U at hp HO
  have HU : Hid (wth l (f, t) = U) := hU
  clear hU
  go_wp2_with fail
  refine hp.mono ?_
  rintro e w3 ⟨rfl, rfl⟩
  clear hp c0 c1
  have hs := HB2.out.size
  go_wp2
  go_ret
  unfold WalkPost
  rw [HU.out]
  refine ⟨_, _, a, c, rfl, ?_, ?_, World.ownsRow.alloc (World.ownsRow.alloc HO.out _) _, by omega, hs, by omega, (HB2.out.alloc hs _).alloc (by simp; omega) _⟩
  · have := heap_alloc_new' (w2.alloc (.cells #[.slice a U.length c] 26)) (.cells #[.int .i64 f, .int .i64 t] 36)
    rw [World.size_alloc] at this; exact this
  · exact (Below.heap_alloc _ _ _ (by simp)).trans (heap_alloc_new' w2 _)

end Go.Proofs.YtkkmoplijicmpaeDoor.C

namespace Go.Proofs.YtkkmoplijicmpaeDoor.C
open Go.RowKit

/-- Where the next span may begin. -/
def lst (l : List Sp) (k : Nat) : Int := match k with
  | 0 => 0
  | k + 1 => (l.getD k (0, 0)).2 + 1

end Go.Proofs.YtkkmoplijicmpaeDoor.C

namespace Go.Proofs.YtkkmoplijicmpaeDoor.C
open Go.RowKit

end Go.Proofs.YtkkmoplijicmpaeDoor.C

namespace Go.Proofs.YtkkmoplijicmpaeDoor.C
open Go.RowKit

abbrev Pz' := Sp × Bool
def pzc (x : Sp × Bool) : List Value := [.int .i64 x.1.1, .int .i64 x.1.2, .bool x.2]
/-- A row of pieces of the call's own. -/
def POwn (w : World) (base : Nat) (v : Value) (l : List (Sp × Bool)) : Prop := w.ownsRow base 131 3 v l.length (l.flatMap pzc)
theorem POwn.lt {w : World} {base : Nat} {v : Value} {l : List (Sp × Bool)} (h : POwn w base v l) : ∀ k, v.ownBlock = some k → base ≤ k ∧ k < w.heap.size := World.ownsRow.lt h
theorem POwn.shape {w : World} {base : Nat} {v : Value} {l : List (Sp × Bool)} (h : POwn w base v l) : ∃ a c, v = .slice a l.length c := own_shape h
theorem POwn.below {w w' : World} {base : Nat} {v : Value} {l : List (Sp × Bool)} (h : POwn w base v l) (hb : Below w.heap.size w w') : POwn w' base v l := by
  refine ⟨h.1, ?_⟩
  rcases h.2 with hn | ⟨g, cap, cur, hv, h1, h2, h3⟩
  · exact .inl hn
  · have hg : g < w.heap.size := (h.lt g (by rw [hv]; rfl)).2
    exact .inr ⟨g, cap, cur, hv, h1, (hb.block g hg).trans h2, h3⟩
theorem pzc_get (l : List (Sp × Bool)) (i : Nat) (p : Sp × Bool) (h : l[i]? = some p) : (l.flatMap pzc)[i * 3]? = some (.int .i64 p.1.1) ∧ (l.flatMap pzc)[i * 3 + 1]? = some (.int .i64 p.1.2) ∧ (l.flatMap pzc)[i * 3 + 2]? = some (.bool p.2) := by
  induction l generalizing i with
  | nil => simp at h
  | cons s r ih =>
    cases i with
    | zero => simp at h; subst h; simp [pzc]
    | succ i =>
      simp at h
      have := ih i h
      rw [List.flatMap_cons, List.getElem?_append_right (by simp [pzc]; omega), List.getElem?_append_right (by simp [pzc]; omega), List.getElem?_append_right (by simp [pzc]; omega)]
      simp only [pzc, List.length_cons, List.length_nil]
      rw [show (i + 1) * 3 - (0 + 1 + 1 + 1) = i * 3 from by omega, show (i + 1) * 3 + 1 - (0 + 1 + 1 + 1) = i * 3 + 1 from by omega, show (i + 1) * 3 + 2 - (0 + 1 + 1 + 1) = i * 3 + 2 from by omega]
      exact this
theorem POwn.cells {W : World} {base n c k : Nat} {a : Option Addr} {L : List (Sp × Bool)} {p : Sp × Bool} (h : POwn W base (.slice a n c) L) (hk : L[k]? = some p) : ∃ g, a = some ⟨g, 0, none⟩ ∧ W.cell? ⟨g, k * 3, none⟩ = some (.int .i64 p.1.1) ∧ W.cell? ⟨g, k * 3 + 1, none⟩ = some (.int .i64 p.1.2) ∧ W.cell? ⟨g, k * 3 + 2, none⟩ = some (.bool p.2) := by
  have hkl : k < L.length := (List.getElem?_eq_some_iff.mp hk).1
  obtain ⟨g, cap, hv⟩ := own_some h (by omega)
  simp only [Value.slice.injEq] at hv
  obtain ⟨rfl, rfl, rfl⟩ := hv
  obtain ⟨q1, q2, q3⟩ := pzc_get L k p hk
  exact ⟨g, rfl, (World.ownsRow.cellAt h _ (by omega)).trans q1, (World.ownsRow.cellAt h _ (by omega)).trans q2, (World.ownsRow.cellAt h _ (by omega)).trans q3⟩
theorem POwn.snoc {w : World} {base : Nat} {v : Value} {l : List (Sp × Bool)} {x : Sp × Bool} (h : w.ownsRow base 131 3 v (l.length + 1) (l.flatMap pzc ++ [.int .i64 x.1.1, .int .i64 x.1.2, .bool x.2])) : POwn w base v (l ++ [x]) := by
  unfold POwn; rw [List.flatMap_append, List.length_append]; exact h

def PcPost (w : World) (ps : List (Sp × Bool)) (e : Ending) (w' : World) : Prop := ∃ v, e = .returned v ∧ POwn w' w.heap.size v ps ∧ Below w.heap.size w w'

end Go.Proofs.YtkkmoplijicmpaeDoor.C

namespace Go.Proofs.YtkkmoplijicmpaeDoor.C
open Go.RowKit

end Go.Proofs.YtkkmoplijicmpaeDoor.C

namespace Go.Proofs.YtkkmoplijicmpaeDoor.C
open Go.RowKit

/-- Pieces, of whatever is asked. -/
def PcAny (w : World) (l : List Sp) (s : Sp) (e : Ending) (w' : World) : Prop := ∃ v ps, e = .returned v ∧ POwn w' w.heap.size v ps ∧ Below w.heap.size w w' ∧ (IsSet l ∧ Asked s → ps = pc s.2 s.1 l) ∧ ps.length ≤ 4001

end Go.Proofs.YtkkmoplijicmpaeDoor.C

namespace Go.Proofs.YtkkmoplijicmpaeDoor.C
open Go.RowKit Go.Shelf

/-- The pieces hang on what lies within alone. -/
theorem pc_wth {hi : Int} : ∀ {l : List Sp} {p : Int}, pc hi p (pick true (pc hi p l)) = pc hi p l
  | [], p => by
    simp only [pc]
    split
    · simp [pick, pc, *]
    · simp [pick, pc, *]
  | x :: r, p => by
    by_cases h : min x.2 hi ≤ max x.1 p
    · rw [pc_skip h]; exact pc_wth
    · by_cases hp : p < x.1
      · rw [pc_gap h hp]
        have e : pick true (((p, x.1), false) :: ((x.1, min x.2 hi), true) :: pc hi (min x.2 hi) r) = (x.1, min x.2 hi) :: pick true (pc hi (min x.2 hi) r) := by simp [pick]
        rw [e, pc_gap (x := (x.1, min x.2 hi)) (by simp only; omega) hp]
        simp only
        rw [show min (min x.2 hi) hi = min x.2 hi by omega, pc_wth]
      · rw [pc_on h (by omega)]
        have e : pick true (((p, min x.2 hi), true) :: pc hi (min x.2 hi) r) = (p, min x.2 hi) :: pick true (pc hi (min x.2 hi) r) := by simp [pick]
        rw [e, pc_on (x := (p, min x.2 hi)) (by simp only; omega) (by simp only; omega)]
        simp only
        rw [show min (min x.2 hi) hi = min x.2 hi by omega, pc_wth]

/-- What there is to walk over. -/
def wks (l : List Sp) (f t : Int) (L : List Pz) : Prop := (IsSet l ∧ Asked (f, t) → L = pc t f l) ∧ (¬ (IsSet l ∧ Asked (f, t)) → L = [])
theorem wks.len {l : List Sp} {f t : Int} {L : List Pz} (h : wks l f t L) : L.length ≤ 4001 := by
  by_cases hq : IsSet l ∧ Asked (f, t)
  · rw [h.1 hq]
    have : (pc t f l).length ≤ 2 * l.length + 1 := len_pc
    have := hq.1.1
    omega
  · rw [h.2 hq]; simp

/-- What Walk answers of whatever is asked. -/
def WalkAll (l : List Sp) (f t : Int) (w : World) (e : Ending) (w' : World) : Prop := ∃ Bs Bl a c xs s1 s2, e = .returned (.func (.func 145) #[] #[.pointer (some ⟨Bs, 0, none⟩), .pointer (some ⟨Bl, 0, none⟩)]) ∧
  w'.heap[Bs]? = some (.cells #[.int .i64 s1, .int .i64 s2] 36 (0, 0)) ∧ w'.heap[Bl]? = some (.cells #[.slice a xs.length c] 26 (0, 0)) ∧ SOwn w' w.heap.size (.slice a xs.length c) xs ∧ w.heap.size ≤ Bs ∧ w.heap.size ≤ Bl ∧ Bs ≠ Bl ∧ Below w.heap.size w w' ∧ xs.length ≤ 2000 ∧ wks l f t (pc s2 s1 xs)

set_option maxHeartbeats 2000000 in
theorem walk_all {v : Value} {l : List Sp} {w : World} (f t : Int) (h : Ls w v l) : Calls Tryd.prog 84 #[v, .agg #[.int .i64 f, .int .i64 t]] w (WalkAll l f t w) := by
  by_cases hq : IsSet l ∧ Asked (f, t)
  · refine (walk_any f t h hq.1 hq.2).mono ?_
    rintro e w' ⟨Bs, Bl, a, c, rfl, h1, h2, h3, h4, h5, h6, h7⟩
    refine ⟨Bs, Bl, a, c, _, f, t, rfl, h1, h2, h3, h4, h5, h6, h7, ?_, fun _ => pc_wth, fun hn => absurd hq hn⟩
    have : (wth l (f, t)).length ≤ l.length := len_true
    have := hq.1.1
    omega
  · have hwi := within_any f t (h.below (below_box w f t))
    have HW : Hid (∀ u er, GR true l (f, t) u er → er = 30 ∧ u = []) := fun u er hg => by
      rcases hg with ⟨_, h1, h2⟩ | ⟨h1, h2, _⟩
      · exact ⟨h1, h2⟩
      · exact absurd ⟨h1, h2⟩ hq
    have HN : Hid (¬ (IsSet l ∧ Asked (f, t))) := hq
    clear hq h
    go_enter Tryd.func84, Tryd.ntmps84
    go_wp2_with fail
    refine hwi.mono ?_
    rintro e w2 ⟨v2, u, er, rfl, hown, hgr, hb2⟩
    obtain ⟨rfl, rfl⟩ := HW.out _ _ hgr
    obtain ⟨a, c, rfl⟩ := hown.shape
    have HB2 : Hid (Below w.heap.size w w2) := (below_box w f t).trans (hb2.mono (by simp))
    clear hwi HW hgr hown hb2
    have hp := pieces_any none 0 0 0 0 w2
    go_wp2_with fail
    refine hp.mono ?_
    rintro e w3 ⟨rfl, rfl⟩
    clear hp
    have hs := HB2.out.size
    go_wp2
    go_ret
    refine ⟨_, _, none, 0, [], 0, 0, rfl, ?_, ?_, SOwn.nil _ _, by omega, hs, by omega, (HB2.out.alloc hs _).alloc (by simp; omega) _, by simp, fun h => absurd h HN.out, fun _ => by simp [pc]⟩
    · have := heap_alloc_new' (w2.alloc (.cells #[.slice none 0 0] 26)) (.cells #[.int .i64 0, .int .i64 0] 36)
      rw [World.size_alloc] at this; exact this
    · exact (Below.heap_alloc _ _ _ (by simp)).trans (heap_alloc_new' w2 _)

end Go.Proofs.YtkkmoplijicmpaeDoor.C
