import Derived.Test.YtcfodcioeefbeaaDoorBkGrn
import Derived.Test.YtcfodcioeefbeaaDoorBkCut
import Derived.Test.YtcfodcioeefbeaaDoorSam
namespace Go.Proofs.YtcfodcioeefbeaaDoor
open Go.RowKit

/-- Pieces one behind another, up to an end. -/
def itG (nx : Int → Pc) (tt : Int) : Nat → Int → List Pc
  | 0, _ => []
  | f + 1, at' => if at' < tt then nx at' :: itG nx tt f (nx at').to else []
theorem itG_end {nx : Int → Pc} {tt : Int} {f : Nat} {at' : Int} (h : tt ≤ at') : itG nx tt f at' = [] := by
  cases f with
  | zero => rfl
  | succ f => rw [itG, if_neg (by omega)]
/-- Does each go on? -/
def Goes (nx : Int → Pc) (frm tt : Int) : Prop := ∀ at', frm ≤ at' → at' < tt → at' < (nx at').to ∧ (nx at').to ≤ tt
theorem itG_len {nx : Int → Pc} {tt : Int} : ∀ (f : Nat) (at' : Int), (itG nx tt f at').length ≤ f
  | 0, _ => by simp [itG]
  | f + 1, at' => by
    rw [itG]
    split
    · have := itG_len (nx := nx) (tt := tt) f (nx at').to; simp only [List.length_cons]; omega
    · simp

/-- A gap that is cut without a checkpoint; the next piece of one that ends with a checkpoint. -/
def plG (k : Pk) (frm tt : Int) : List Pc := itG (fun a => pPc k a tt) tt (tt - frm).toNat frm
def akP (k : Pk) (tt c r at' : Int) : Pc := if (cPc k at' tt c r).to < tt then pPc k at' (tt - 1) else cPc k at' tt c r
def akG (k : Pk) (frm tt c r : Int) : List Pc := itG (akP k tt c r) tt (tt - frm).toNat frm
theorem pl_goes {k : Pk} (ok : k.Ok) {frm tt : Int} (h0 : 0 ≤ frm) (h1 : tt ≤ 65536) : Goes (fun a => pPc k a tt) frm tt := fun at' h h' => pPc_to ok (by omega) h' h1
theorem ak_goes {k : Pk} (ok : k.Ok) {frm tt c r : Int} (h0 : 0 ≤ frm) (h1 : tt ≤ 65536) (hc : 0 ≤ c ∧ c ≤ 4611686018427387903) (hr : 0 ≤ r ∧ r ≤ 4611686018427387903) : Goes (akP k tt c r) frm tt := fun at' h h' => by
  unfold akP
  split
  · rename_i hq
    have := ro1_low ok (at' := at') (c := c) (r := r) (by omega) (by omega) hc hr
    simp only [cPc] at hq
    have := pPc_to ok (at' := at') (e := tt - 1) (by omega) (by omega) (by omega)
    omega
  · exact cPc_to ok (by omega) h' h1 hc hr

/-- How far a gap is cut, behind what stood there. -/
structure II (nx : Int → Pc) (frm tt : Int) (acc : List Pc) (B : Nat) (w : World) (v : Value) (at' : Int) (l : List Pc) (f : Nat) (wr : World) : Prop where
  lo : frm ≤ at'
  hi : at' ≤ max frm tt
  own : POwn wr B v (acc ++ l)
  bel : Below w.heap.size w wr
  whole : itG nx tt (tt - frm).toNat frm = l ++ itG nx tt f at'
  fuel : tt - at' ≤ f
  len : l.length ≤ at' - frm
theorem II.start {nx : Int → Pc} {frm tt : Int} {acc : List Pc} {B : Nat} {w : World} {v : Value} {wr : World} (hb : Below w.heap.size w wr) (ho : POwn wr B v acc) : II nx frm tt acc B w v frm [] (tt - frm).toNat wr :=
  ⟨by omega, by omega, by rw [List.append_nil]; exact ho, hb, rfl, by omega, by simp⟩
theorem II.step {nx : Int → Pc} {frm tt : Int} {acc : List Pc} {B : Nat} {w wr W w5 : World} {v v' : Value} {at' : Int} {l : List Pc} {f : Nat} (h : II nx frm tt acc B w v at' l f wr) (hG : Goes nx frm tt) (hlt : at' < tt) (hB : w.heap.size ≤ B) (hb : Below w.heap.size wr W)
    (hown : w5.ownsRow B 56 5 v' ((acc ++ l).length + 1) ((acc ++ l).flatMap pcL ++ pcL (nx at'))) (hgr : W.grownBy w5 v.ownBlock) : ∃ f', II nx frm tt acc B w v' (nx at').to (l ++ [nx at']) f' w5 := by
  have hto := hG at' h.lo hlt
  have hfu := h.fuel
  obtain ⟨f', rfl⟩ : ∃ f', f = f' + 1 := ⟨f - 1, by omega⟩
  have hrow := row_ge h.own
  refine ⟨f', by have := h.lo; omega, by omega, ?_, ?_, ?_, by omega, ?_⟩
  · unfold POwn
    rw [← List.append_assoc, List.flatMap_append, show ((acc ++ l) ++ [nx at']).length = (acc ++ l).length + 1 from by simp; omega, show [nx at'].flatMap pcL = pcL (nx at') from by simp]
    exact hown
  · exact (h.bel.trans hb).grown hgr (by have := hb.size; have := h.bel.size; omega) (fun r hr => by have := hrow r hr; omega)
  · rw [h.whole, itG, if_pos hlt]; simp
  · have := h.len
    simp; omega
theorem II.done {nx : Int → Pc} {frm tt : Int} {acc : List Pc} {B : Nat} {w : World} {v : Value} {at' : Int} {l : List Pc} {f : Nat} {wr : World} (h : II nx frm tt acc B w v at' l f wr) (hlt : ¬ at' < tt) : POwn wr B v (acc ++ itG nx tt (tt - frm).toNat frm) := by
  have := h.whole
  rw [itG_end (f := f) (at' := at') (by omega), List.append_nil] at this
  rw [this]
  exact h.own

/-- What Again answers of gaps that may be. -/
def agL (k : Pk) (c r : Int) : List (Int × Int) → List Pc
  | [] => []
  | [g] => akG k g.1 g.2 c r
  | g :: gs => plG k g.1 g.2 ++ agL k c r gs

end Go.Proofs.YtcfodcioeefbeaaDoor

namespace Go.Proofs.YtcfodcioeefbeaaDoor
open Go.RowKit

end Go.Proofs.YtcfodcioeefbeaaDoor

namespace Go.Proofs.YtcfodcioeefbeaaDoor
open Go.RowKit

/-! ## What Again answers -/
def lastTo (gs : List (Int × Int)) : Int := (gs.getLast?.map (·.2)).getD 0
def gapB (gs : List (Int × Int)) (red : Int) : Bool := decide (gs ≠ []) && (C.setB gs && decide (lastTo gs ≤ red))
def asB (c r : Int) : Bool := btw c 1 4611686018427387903 && btw r 0 4611686018427387903
def ag (k : Pk) (gs : List (Int × Int)) (c r : Int) : List Pc × Int :=
  if 2000 < gs.length then ([], 2) else if sesB k = false then ([], 1) else if pclB k = false then ([], 40) else if gapB gs k.red = false then ([], 40) else if asB c r = false then ([], 1) else (agL k c r gs, 0)

theorem lastTo_snoc (l : List (Int × Int)) (g : Int × Int) : lastTo (l ++ [g]) = g.2 := by simp [lastTo]
theorem agL_snoc (k : Pk) (c r : Int) (g : Int × Int) : ∀ l : List (Int × Int), agL k c r (l ++ [g]) = l.flatMap (fun s => plG k s.1 s.2) ++ akG k g.1 g.2 c r
  | [] => by simp [agL]
  | s :: t => by
    have ih := agL_snoc k c r g t
    have h : agL k c r (s :: (t ++ [g])) = plG k s.1 s.2 ++ agL k c r (t ++ [g]) := by
      cases t with
      | nil => simp [agL]
      | cons u v => simp [agL]
    rw [List.cons_append, h, ih, List.flatMap_cons, List.append_assoc]

/-- Gaps that may be, of a part of so many bytes. -/
structure Gp (gs : List (Int × Int)) (red : Int) : Prop where
  ne : gs ≠ []
  rt : C.Rt 0 gs
  few : gs.length ≤ 2000
  last : lastTo gs ≤ red
theorem gp_of {gs : List (Int × Int)} {red : Int} (h : gapB gs red = true) : Gp gs red := by
  simp only [gapB, Bool.and_eq_true, decide_eq_true_eq] at h
  have := C.setB_iff.mp h.2.1
  exact ⟨h.1, this.2, this.1, h.2.2⟩
theorem rt_last : ∀ {gs : List (Int × Int)} {lo : Int}, C.Rt lo gs → ∀ g ∈ gs, g.2 ≤ lastTo gs
  | [], _, _, g, hg => by cases hg
  | [s], _, _, g, hg => by simp at hg; subst hg; simp [lastTo]
  | s :: t :: r, lo, h, g, hg => by
    have e : lastTo (s :: t :: r) = lastTo (t :: r) := by simp [lastTo]
    rw [e]
    have ih := rt_last (gs := t :: r) h.2.2.2
    rcases List.mem_cons.mp hg with rfl | hg
    · have h1 := ih t (by simp)
      have h2 := h.2.2.2
      have h3 := h2.1; have h4 := h2.2.1
      omega
    · exact ih g hg
theorem Gp.mem {gs : List (Int × Int)} {red : Int} (h : Gp gs red) : ∀ g ∈ gs, 0 ≤ g.1 ∧ g.1 < g.2 ∧ g.2 ≤ red := fun g hg => by
  have := h.rt.mem g hg; have := rt_last h.rt g hg; have := h.last; omega

theorem plG_len (k : Pk) (f t : Int) : (plG k f t).length ≤ (t - f).toNat := itG_len _ _
theorem akG_len (k : Pk) (f t c r : Int) : (akG k f t c r).length ≤ (t - f).toNat := itG_len _ _
theorem pls_len (k : Pk) : ∀ {gs : List (Int × Int)} {lo : Int}, C.Rt lo gs → (∀ g ∈ gs, g.2 ≤ 65536) → 0 ≤ lo → ((gs.flatMap (fun s => plG k s.1 s.2)).length : Int) ≤ max 0 (65536 - lo)
  | [], lo, _, _, _ => by simp; omega
  | s :: r, lo, h, hm, h0 => by
    obtain ⟨h1, h2, h3, h4⟩ := h
    have ih := pls_len k h4 (fun g hg => hm g (by simp [hg])) (by omega)
    have := plG_len k s.1 s.2
    have := hm s (by simp)
    rw [List.flatMap_cons, List.length_append]
    omega
theorem agL_len {k : Pk} {gs : List (Int × Int)} {red c r : Int} (h : Gp gs red) (hr : red ≤ 65536) : (agL k c r gs).length ≤ 131072 := by
  obtain ⟨l, g, rfl⟩ : ∃ l g, gs = l ++ [g] := ⟨gs.dropLast, gs.getLast h.ne, (List.dropLast_concat_getLast h.ne).symm⟩
  rw [agL_snoc, List.length_append]
  have h1 := pls_len k (C.Rt.cut h.rt) (fun s hs => by have := h.mem s (by simp [hs]); omega) (Int.le_refl 0)
  have h2 := akG_len k g.1 g.2 c r
  have h3 := h.mem g (by simp)
  omega
theorem ag_len (k : Pk) (gs : List (Int × Int)) (c r : Int) : (ag k gs c r).1.length ≤ 131072 := by
  unfold ag
  split
  · simp
  · split
    · simp
    · rename_i h1
      split
      · simp
      · rename_i h2
        split
        · simp
        · rename_i h3
          split
          · simp
          · have ok := Pk.ok_of (k := k) (by simpa using h1) (by simpa using h2)
            exact agL_len (gp_of (by simpa using h3)) (by have := ok.size; have := ok.red; omega)
theorem plG_pos {k : Pk} {f t : Int} (h : f < t) : 0 < (plG k f t).length := by
  unfold plG
  obtain ⟨n, hn⟩ : ∃ n, (t - f).toNat = n + 1 := ⟨(t - f).toNat - 1, by omega⟩
  rw [hn, itG, if_pos h]; simp

/-! ## The program's -/
set_option maxHeartbeats 400000 in
theorem asks_any (c r : Int) (w : World) : Calls Tryd.prog 33 #[.int .i64 c, .int .i64 r] w fun e w' => e = .returned (.bool (asB c r)) ∧ w = w' := by
  unfold asB
  obtain ⟨q1, h1⟩ : ∃ q, btw c 1 4611686018427387903 = q := ⟨_, rfl⟩
  obtain ⟨q2, h2⟩ : ∃ q, btw r 0 4611686018427387903 = q := ⟨_, rfl⟩
  have C1 := btwn_v _ _ _ _ h1
  have C2 := btwn_v _ _ _ _ h2
  rw [h1, h2]
  clear h1 h2
  go_enter Tryd.func33, Tryd.ntmps33
  go_wp2_with fail
  refine (C1 _).mono ?_
  rintro e w' ⟨rfl, rfl⟩
  cases q1
  · go_wp2
    go_ret
    exact ⟨rfl, rfl⟩
  go_wp2_with fail
  refine (C2 _).mono ?_
  rintro e w' ⟨rfl, rfl⟩
  go_wp2
  go_ret
  exact ⟨rfl, rfl⟩

/-- How far the gaps but the last are cut. -/
structure AI (k : Pk) (gs : List (Int × Int)) (w : World) (B : Nat) (v : Value) (i : Nat) (wr : World) : Prop where
  own : POwn wr B v ((gs.take i).flatMap (fun s => plG k s.1 s.2))
  bel : Below B w wr
theorem AI.step {k : Pk} {gs : List (Int × Int)} {w wr W w5 : World} {B i : Nat} {v v' : Value} {g : Int × Int} (h : AI k gs w B v i wr) (hg : gs[i]? = some g) (hB : B ≤ wr.heap.size) (hb : Below B wr W)
    (hown : w5.ownsRow B 56 5 v' (((gs.take i).flatMap (fun s => plG k s.1 s.2)).length + (plG k g.1 g.2).length) (((gs.take i).flatMap (fun s => plG k s.1 s.2)).flatMap pcL ++ (plG k g.1 g.2).flatMap pcL)) (hgr : W.grownBy w5 v.ownBlock) : AI k gs w B v' (i + 1) w5 := by
  have e : gs.take (i + 1) = gs.take i ++ [g] := by rw [List.take_add_one, hg]; rfl
  refine ⟨?_, (h.bel.trans hb).grown hgr (by have := hb.size; omega) (fun r hr => (row_ge h.own r hr).1)⟩
  unfold POwn
  rw [e, List.flatMap_append, List.flatMap_append, List.length_append]
  simpa using hown

end Go.Proofs.YtcfodcioeefbeaaDoor
