import Derived.Test.YtllhbhogfffedaaGreatDoorSpn
import Derived.Maps.AppendAt
import Derived.OwnWalk
import Derived.Laws.OwnMore
import Derived.WalkSmall
import Derived.Test.YtllhbhogfffedaaGreatDoorRcMay
namespace Go.Proofs.YtllhbhogfffedaaGreatDoor.C
open Go.RowKit

def spc (p : Sp) : List Value := [.int .i64 p.1, .int .i64 p.2]
theorem Tryz.info_span : (Tryz.prog.info? 128).map (fun i => (i.zero, i.size, i.bytes)) = some (some (.agg #[.int .i64 0, .int .i64 0]), 2, 16) := by kernel_rfl

/-- A row of spans of the call's own. -/
def SOwn (w : World) (base : Nat) (v : Value) (l : List Sp) : Prop := w.ownsRow base 128 2 v l.length (l.flatMap spc)

theorem own_shape {w : World} {base n sz : Nat} {e : TypeId} {v : Value} {xs : List Value} (h : w.ownsRow base e sz v n xs) : ∃ a cap, v = .slice a n cap := by
  obtain ⟨_, ⟨rfl, rfl⟩ | ⟨g, cap, cur, rfl, _⟩⟩ := h
  · exact ⟨none, 0, rfl⟩
  · exact ⟨_, cap, rfl⟩
theorem own_some {w : World} {base n sz : Nat} {e : TypeId} {v : Value} {xs : List Value} (h : w.ownsRow base e sz v n xs) (hn : 0 < n) : ∃ g cap, v = .slice (some ⟨g, 0, none⟩) n cap := by
  obtain ⟨_, ⟨rfl, rfl⟩ | ⟨g, cap, cur, rfl, _⟩⟩ := h
  · omega
  · exact ⟨g, cap, rfl⟩
theorem spc_get (l : List Sp) (i : Nat) (p : Sp) (h : l[i]? = some p) : (l.flatMap spc)[i * 2]? = some (.int .i64 p.1) ∧ (l.flatMap spc)[i * 2 + 1]? = some (.int .i64 p.2) := by
  induction l generalizing i with
  | nil => simp at h
  | cons s r ih =>
    cases i with
    | zero => simp at h; subst h; simp [spc]
    | succ i =>
      simp at h
      have := ih i h
      rw [List.flatMap_cons, List.getElem?_append_right (by simp [spc]; omega), List.getElem?_append_right (by simp [spc]; omega)]
      simp only [spc, List.length_cons, List.length_nil]
      rw [show (i + 1) * 2 - (0 + 1 + 1) = i * 2 from by omega, show (i + 1) * 2 + 1 - (0 + 1 + 1) = i * 2 + 1 from by omega]
      exact this
theorem SOwn.spa {w : World} {base : Nat} {a : Option Addr} {n c : Nat} {l : List Sp} (h : SOwn w base (.slice a n c) l) : Spa w a l := by
  by_cases hl : l = []
  · exact .inl hl
  · have hp := List.length_pos_iff.mpr hl
    obtain ⟨g, cap, hv⟩ := own_some h hp
    simp only [Value.slice.injEq] at hv
    obtain ⟨rfl, rfl, rfl⟩ := hv
    refine .inr ⟨g, 0, rfl, fun i p hi => ?_⟩
    have hil : i < l.length := (List.getElem?_eq_some_iff.mp hi).1
    obtain ⟨q1, q2⟩ := spc_get l i p hi
    rw [Nat.zero_add]
    exact ⟨(World.ownsRow.cellAt h _ (by omega)).trans q1, (World.ownsRow.cellAt h _ (by omega)).trans q2⟩
theorem cell_two_new (w : World) (x y : Value) (t : TypeId) : ∀ j u, [x, y][j]? = some u → (w.alloc (.cells #[x, y] t)).cell? ((⟨w.heap.size, 0, none⟩ : Addr).add j) = some u := by
  intro j u hj
  match j, hj with
  | 0, hj => simp at hj; subst hj; simp [Addr.add]
  | 1, hj => simp at hj; subst hj; simp [Addr.add]
theorem cell_two_at (w : World) (x y : Value) (t : TypeId) (n : Nat) (hn : n = w.heap.size) : ∀ j u, [x, y][j]? = some u → (w.alloc (.cells #[x, y] t)).cell? ((⟨n, 0, none⟩ : Addr).add j) = some u := by
  subst hn; exact cell_two_new _ _ _ _

theorem grown_set (w : World) (g i : Nat) (u : Value) : w.grownBy (w.setCell ⟨g, i, none⟩ u) (some g) :=
  ⟨rfl, rfl, rfl, by simp [World.setCell], fun k _ hne => Below.heap_setCell _ _ _ _ (fun e => hne (by rw [e]))⟩

def JoinPost (w : World) (base : Nat) (v : Value) (l : List Sp) (e : Ending) (w' : World) : Prop := ∃ v', e = .returned v' ∧ SOwn w' base v' l ∧ w.grownBy w' v.ownBlock

end Go.Proofs.YtllhbhogfffedaaGreatDoor.C

namespace Go.Proofs.YtllhbhogfffedaaGreatDoor.C
open Go.RowKit

def lenV : Value → Nat
  | .slice _ n _ => n
  | _ => 0

theorem SOwn.lt {w : World} {base : Nat} {v : Value} {l : List Sp} (h : SOwn w base v l) : ∀ k, v.ownBlock = some k → base ≤ k ∧ k < w.heap.size := World.ownsRow.lt h
theorem SOwn.shape {w : World} {base : Nat} {v : Value} {l : List Sp} (h : SOwn w base v l) : ∃ a c, v = .slice a l.length c := own_shape h
def MergePost (w : World) (l m : List Sp) (e : Ending) (w' : World) : Prop := ∃ v u, e = .returned v ∧ SOwn w' w.heap.size v u ∧ Uni l m u ∧ Below w.heap.size w w'

end Go.Proofs.YtllhbhogfffedaaGreatDoor.C

namespace Go.Proofs.YtllhbhogfffedaaGreatDoor.C
open Go.RowKit

def eqB (l m : List Sp) : Bool := decide (l = m)

end Go.Proofs.YtllhbhogfffedaaGreatDoor.C

namespace Go.Proofs.YtllhbhogfffedaaGreatDoor.C
open Go.RowKit

/-- A value that holds a list of spans. -/
structure Ls (w : World) (v : Value) (l : List Sp) : Prop where
  shape : ∃ a c, v = .slice a l.length c ∧ Spa w a l ∧ l.length ≤ c ∧ c ≤ 9223372036854775807
  small : l.length ≤ 9223372036854775807
theorem Ls.below {w w' : World} {v : Value} {l : List Sp} (h : Ls w v l) (hb : Below w.heap.size w w') : Ls w' v l := by
  obtain ⟨a, c, hv, hs, h1, h2⟩ := h.shape
  exact ⟨⟨a, c, hv, hs.below hb, h1, h2⟩, h.small⟩
theorem SOwn.ls {w : World} {base : Nat} {v : Value} {l : List Sp} (h : SOwn w base v l) (hm : l.length ≤ 9223372036854775807) : Ls w v l := by
  obtain ⟨a, c, rfl⟩ := h.shape
  refine ⟨⟨a, c, rfl, h.spa, ?_⟩, hm⟩
  rcases h.2 with ⟨hv, hn⟩ | ⟨g, cap, cur, hv, _, _, h1, h2, _⟩
  · simp only [Value.slice.injEq] at hv; obtain ⟨_, _, rfl⟩ := hv; omega
  · simp only [Value.slice.injEq] at hv; obtain ⟨_, _, rfl⟩ := hv; unfold maxLen at h2; omega
theorem Ls.nil (w : World) : Ls w (.slice none 0 0) [] := ⟨⟨none, 0, rfl, .inl rfl, by simp, by omega⟩, by simp⟩
theorem SOwn.nil (w : World) (base : Nat) : SOwn w base (.slice none 0 0) [] := World.ownsRow_nil _ _ _ _

theorem right_ls {v : Value} {l : List Sp} {w : World} (h : Ls w v l) : Calls Tryz.prog 137 #[v] w fun e w' => e = .returned (.bool (setB l)) ∧ Below w.heap.size w w' := by
  obtain ⟨a, c, rfl, hs, _, _⟩ := h.shape; exact right_any a c l w hs h.small
/-- What Union answers. -/
def UR (l m u : List Sp) (er : Int) : Prop := (¬ (IsSet l ∧ IsSet m) ∧ er = 30 ∧ u = []) ∨ (IsSet l ∧ IsSet m ∧ ∃ U, Uni l m U ∧ ((U.length ≤ 2000 ∧ er = 0 ∧ u = U) ∨ (2000 < U.length ∧ er = 3 ∧ u = [])))
def UnionPost (l m : List Sp) (w : World) (e : Ending) (w' : World) : Prop := ∃ v u er, e = .returned (.tuple #[v, .int .i64 er]) ∧ SOwn w' w.heap.size v u ∧ UR l m u er ∧ Below w.heap.size w w'

/-- What Add answers. -/
def AR (l : List Sp) (s : Sp) (u : List Sp) (n er : Int) : Prop := UR l [s] u er ∧ ((er = 0 ∧ n = siz u - siz l) ∨ (er ≠ 0 ∧ n = 0))
def AddPost (l : List Sp) (s : Sp) (w : World) (e : Ending) (w' : World) : Prop := ∃ v u n er, e = .returned (.tuple #[v, .int .i64 n, .int .i64 er]) ∧ SOwn w' w.heap.size v u ∧ AR l s u n er ∧ Below w.heap.size w w'

end Go.Proofs.YtllhbhogfffedaaGreatDoor.C

namespace Go.Proofs.YtllhbhogfffedaaGreatDoor.C
open Go.RowKit

/-- Where the next span may begin. -/
def lsx (l : List Sp) (k : Nat) : Int := match k with
  | 0 => 0
  | k + 1 => (l.getD k (0, 0)).2 + 1

end Go.Proofs.YtllhbhogfffedaaGreatDoor.C

namespace Go.Proofs.YtllhbhogfffedaaGreatDoor
open Go.RowKit

def lenB (n low : Int) : Bool := n == 0 || (decide (low ≤ n) && decide (n ≤ 65536))
set_option maxHeartbeats 400000 in
theorem isLength_any (n low : Int) (w : World) :
    Calls Tryz.prog 133 #[.int .i64 n, .int .i64 low] w fun e w' => e = .returned (.bool (lenB n low)) ∧ w = w' := by
  have HL : Hid (lenB n low = (n == 0 || (decide (low ≤ n) && decide (n ≤ 65536)))) := rfl
  by_cases h : n = 0
  · subst h
    go_enter Tryz.func133, Tryz.ntmps133
    go_wp2_with (go_at_call 132; refine (rbetween_any _ _ _ _).mono ?_; rintro e w' ⟨rfl, rfl⟩)
    go_ret
    exact ⟨rfl, rfl⟩
  · have h' : (n == 0) = false := by simpa using h
    rw [h', Bool.false_or] at HL
    rw [HL.out]
    generalize hq : (decide (low ≤ n) && decide (n ≤ 65536)) = q at *
    have HC : Hid (∀ W, Calls Tryz.prog 132 #[.int .i64 n, .int .i64 low, .int .i64 65536] W fun e w' => e = .returned (.bool q) ∧ W = w') := fun W => hq ▸ rbetween_any n low 65536 W
    clear hq HL
    go_enter Tryz.func133, Tryz.ntmps133
    go_wp2_with (go_at_call 132; refine (HC.out _).mono ?_; rintro e w' ⟨rfl, rfl⟩)
    go_ret
    exact ⟨rfl, rfl⟩

/-- Spans that may be tombs. -/
def tombB (l : List (Int × Int)) : Bool := (decide (1 ≤ (l.length : Int)) && decide ((l.length : Int) ≤ 500)) && (C.setB l && decide (1 ≤ (l.head?.getD (0, 0)).1))
set_option maxRecDepth 100000 in
set_option maxHeartbeats 1000000 in
theorem areTombs_any (l : List (Int × Int)) (a : Option Addr) (n c : Nat) (w : World) (hn : l.length = n) (h : C.Ls w (.slice a n c) l) :
    Calls Tryz.prog 134 #[.slice a n c] w fun e w' => e = .returned (.bool (tombB l)) ∧ Below w.heap.size w w' := by
  have HT : Hid (tombB l = ((decide (1 ≤ (n : Int)) && decide ((n : Int) ≤ 500)) && (C.setB l && decide (1 ≤ (l.head?.getD (0, 0)).1)))) := by unfold Hid tombB; rw [hn]
  have HR : Hid (∀ W, Below w.heap.size w W → Calls Tryz.prog 137 #[.slice a n c] W fun e w' => e = .returned (.bool (C.setB l)) ∧ Below W.heap.size W w') := fun W hW => C.right_ls (h.below hW)
  obtain ⟨q, hq⟩ : ∃ q, (decide (1 ≤ (n : Int)) && decide ((n : Int) ≤ 500)) = q := ⟨_, rfl⟩
  have HC : Hid (∀ W, Calls Tryz.prog 132 #[.int .i64 n, .int .i64 1, .int .i64 500] W fun e w' => e = .returned (.bool q) ∧ W = w') := fun W => hq ▸ rbetween_any n 1 500 W
  rw [hq] at HT
  cases q with
  | false =>
    rw [HT.out]
    clear hq h HT HR
    go_enter Tryz.func134, Tryz.ntmps134
    go_wp2_with (go_at_call 132; refine (HC.out _).mono ?_; rintro e w' ⟨rfl, rfl⟩)
    go_ret
    exact ⟨rfl, Below.refl _ _⟩
  | true =>
    have hn1 : 1 ≤ (n : Int) := by simp at hq; omega
    obtain ⟨p, ps, rfl⟩ : ∃ p ps, l = p :: ps := by
      cases l with
      | nil => simp at hn; omega
      | cons p ps => exact ⟨p, ps, rfl⟩
    obtain ⟨a', c', hv, hs, hx1, hx2⟩ := h.shape
    clear hx1 hx2
    simp only [Value.slice.injEq] at hv
    obtain ⟨rfl, hv2, rfl⟩ := hv
    clear hv2
    rcases hs with h0 | ⟨g, off, rfl, hcell⟩
    · cases h0
    have hc0 := (hcell 0 p rfl).1
    simp only [Nat.zero_mul, Nat.add_zero] at hc0
    have HC0 : Hid (∀ W, Below w.heap.size w W → W.cell? ⟨g, off, none⟩ = some (.int .i64 p.1)) := fun W hW => C.cell_below hc0 hW
    rw [show ((p :: ps).head?.getD (0, 0)).1 = p.1 from rfl] at HT
    generalize C.setB (p :: ps) = s at *
    clear hq h hcell hc0 hn
    cases s with
    | false =>
      rw [HT.out]
      clear HT
      go_enter Tryz.func134, Tryz.ntmps134
      go_wp2_with (first | (go_at_call 132; refine (HC.out _).mono ?_; rintro e w' ⟨rfl, rfl⟩) | (go_at_call 137; refine (HR.out _ (Below.refl _ _)).mono ?_; rintro e w2 ⟨rfl, hb2⟩))
      go_ret
      exact ⟨rfl, hb2⟩
    | true =>
      rw [HT.out]
      clear HT
      go_enter Tryz.func134, Tryz.ntmps134
      go_wp2_with (first | (go_at_call 132; refine (HC.out _).mono ?_; rintro e w' ⟨rfl, rfl⟩) | (go_at_call 137; refine (HR.out _ (Below.refl _ _)).mono ?_; rintro e w2 ⟨rfl, hb2⟩; have hc2 := HC0.out _ hb2; clear HR))
      go_ret
      exact ⟨rfl, hb2⟩
end Go.Proofs.YtllhbhogfffedaaGreatDoor

namespace Go.Proofs.YtllhbhogfffedaaGreatDoor
open Go.RowKit
set_option linter.unusedVariables false

/-- As a kind asks for. -/
def suitB (r : Rc) : Bool :=
  if r.kind = 1 then decide (1 ≤ r.size) && decide (r.size ≤ 1073741824)
  else if r.kind = 2 then decide (1 ≤ r.size)
  else if r.kind = 3 then decide (1 ≤ r.peer) && ((decide (1 ≤ r.red) && decide (r.red ≤ r.size)) && (decide (r.size ≤ 65536) && ((r.data.length : Int) == r.red)))
  else if r.kind = 4 then decide (r.how ≤ 6)
  else if r.kind = 6 then decide (1 ≤ (r.data.length : Int)) && (decide (r.off + (r.data.length : Int) ≤ 65536) && (lenB r.red (r.off + (r.data.length : Int)) && lenB r.size (max (r.off + (r.data.length : Int)) r.red)))
  else if r.kind = 8 then decide (r.how ≤ 5)
  else if r.kind = 11 then decide (1 ≤ r.size) && tombB r.spans
  else if r.kind = 12 then (decide (1 ≤ r.red) && decide (r.red ≤ 65536)) && lenB r.size r.red
  else true

set_option maxRecDepth 100000 in
set_option maxHeartbeats 4000000 in
theorem suits_k1 (r : Rc) (sa da : Option Addr) (ns nd sc dc : Nat) (w : World) (hns : r.spans.length = ns) (hnd : r.data.length = nd) (hm : nd ≤ 140737488355328) (hs : C.Ls w (.slice sa ns sc) r.spans) (ho : 0 ≤ r.off ∧ r.off ≤ 4611686018427387903) (hk : r.kind = 1) :
    Calls Tryz.prog 120 #[.agg (rcC r (.slice sa ns sc) (.slice da nd dc))] w fun e w' => e = .returned (.bool (suitB r)) ∧ Below w.heap.size w w' := by
  have HB : Hid (Below w.heap.size w (w.alloc (rcO r (.slice sa ns sc) (.slice da nd dc)))) := (Below.refl _ _).alloc (Nat.le_refl _) _
  have HS : Hid (suitB r = (decide (1 ≤ r.size) && decide (r.size ≤ 1073741824))) := by unfold Hid suitB; rw [hk, if_pos rfl]
  generalize suitB r = S at *
  obtain ⟨kind, org, num, peer, srv, off, red, size, how, spans, data⟩ := r
  simp only at HS ho hk
  subst hk
  clear hns hnd hs
  obtain ⟨ho0, ho1⟩ := ho
  rw [HS.out]
  go_enter Tryz.func120, Tryz.ntmps120
  go_wp2_with (go_at_call 132; refine (rbetween_any _ _ _ _).mono ?_; rintro e w' ⟨rfl, rfl⟩)
  go_ret
  exact ⟨rfl, HB.out⟩
set_option maxRecDepth 100000 in
set_option maxHeartbeats 4000000 in
theorem suits_k2 (r : Rc) (sa da : Option Addr) (ns nd sc dc : Nat) (w : World) (hns : r.spans.length = ns) (hnd : r.data.length = nd) (hm : nd ≤ 140737488355328) (hs : C.Ls w (.slice sa ns sc) r.spans) (ho : 0 ≤ r.off ∧ r.off ≤ 4611686018427387903) (hk : r.kind = 2) :
    Calls Tryz.prog 120 #[.agg (rcC r (.slice sa ns sc) (.slice da nd dc))] w fun e w' => e = .returned (.bool (suitB r)) ∧ Below w.heap.size w w' := by
  have HB : Hid (Below w.heap.size w (w.alloc (rcO r (.slice sa ns sc) (.slice da nd dc)))) := (Below.refl _ _).alloc (Nat.le_refl _) _
  have HS : Hid (suitB r = (decide (1 ≤ r.size))) := by unfold Hid suitB; rw [hk, if_neg (by decide), if_pos rfl]
  generalize suitB r = S at *
  obtain ⟨kind, org, num, peer, srv, off, red, size, how, spans, data⟩ := r
  simp only at HS ho hk
  subst hk
  clear hns hnd hs
  obtain ⟨ho0, ho1⟩ := ho
  rw [HS.out]
  go_enter Tryz.func120, Tryz.ntmps120
  go_wp2
  go_ret
  exact ⟨rfl, HB.out⟩
set_option maxRecDepth 100000 in
set_option maxHeartbeats 4000000 in
theorem suits_k3 (r : Rc) (sa da : Option Addr) (ns nd sc dc : Nat) (w : World) (hns : r.spans.length = ns) (hnd : r.data.length = nd) (hm : nd ≤ 140737488355328) (hs : C.Ls w (.slice sa ns sc) r.spans) (ho : 0 ≤ r.off ∧ r.off ≤ 4611686018427387903) (hk : r.kind = 3) :
    Calls Tryz.prog 120 #[.agg (rcC r (.slice sa ns sc) (.slice da nd dc))] w fun e w' => e = .returned (.bool (suitB r)) ∧ Below w.heap.size w w' := by
  have HB : Hid (Below w.heap.size w (w.alloc (rcO r (.slice sa ns sc) (.slice da nd dc)))) := (Below.refl _ _).alloc (Nat.le_refl _) _
  have HS : Hid (suitB r = (decide (1 ≤ r.peer) && ((decide (1 ≤ r.red) && decide (r.red ≤ r.size)) && (decide (r.size ≤ 65536) && ((nd : Int) == r.red))))) := by unfold Hid suitB; rw [hk, if_neg (by decide), if_neg (by decide), if_pos rfl]; rw [hnd]
  generalize suitB r = S at *
  obtain ⟨kind, org, num, peer, srv, off, red, size, how, spans, data⟩ := r
  simp only at HS ho hk
  subst hk
  clear hns hnd hs
  obtain ⟨ho0, ho1⟩ := ho
  rw [HS.out]
  have HC : Hid (∀ W, Calls Tryz.prog 132 #[.int .i64 red, .int .i64 1, .int .i64 size] W fun e w' => e = .returned (.bool (decide (1 ≤ red) && decide (red ≤ size))) ∧ W = w') := fun W => rbetween_any red 1 size W
  generalize (decide (1 ≤ red) && decide (red ≤ size)) = b2 at *
  by_cases p1 : 1 ≤ peer
  · have p1' : decide (1 ≤ peer) = true := decide_eq_true p1
    rw [p1', Bool.true_and]
    cases b2 with
    | false =>
      go_enter Tryz.func120, Tryz.ntmps120
      go_wp2_with (go_at_call 132; refine (HC.out _).mono ?_; rintro e w' ⟨rfl, rfl⟩)
      go_ret
      exact ⟨rfl, HB.out⟩
    | true =>
      by_cases p3 : size ≤ 65536
      · have p3' : decide (size ≤ 65536) = true := decide_eq_true p3
        rw [p3']
        go_enter Tryz.func120, Tryz.ntmps120
        go_wp2_with (go_at_call 132; refine (HC.out _).mono ?_; rintro e w' ⟨rfl, rfl⟩)
        go_ret
        exact ⟨rfl, HB.out⟩
      · have p3' : decide (size ≤ 65536) = false := decide_eq_false p3
        rw [p3']
        go_enter Tryz.func120, Tryz.ntmps120
        go_wp2_with (go_at_call 132; refine (HC.out _).mono ?_; rintro e w' ⟨rfl, rfl⟩)
        go_ret
        exact ⟨rfl, HB.out⟩
  · have p1' : decide (1 ≤ peer) = false := decide_eq_false p1
    rw [p1']
    go_enter Tryz.func120, Tryz.ntmps120
    go_wp2_with (go_at_call 132; refine (HC.out _).mono ?_; rintro e w' ⟨rfl, rfl⟩)
    go_ret
    exact ⟨rfl, HB.out⟩
set_option maxRecDepth 100000 in
set_option maxHeartbeats 4000000 in
theorem suits_k4 (r : Rc) (sa da : Option Addr) (ns nd sc dc : Nat) (w : World) (hns : r.spans.length = ns) (hnd : r.data.length = nd) (hm : nd ≤ 140737488355328) (hs : C.Ls w (.slice sa ns sc) r.spans) (ho : 0 ≤ r.off ∧ r.off ≤ 4611686018427387903) (hk : r.kind = 4) :
    Calls Tryz.prog 120 #[.agg (rcC r (.slice sa ns sc) (.slice da nd dc))] w fun e w' => e = .returned (.bool (suitB r)) ∧ Below w.heap.size w w' := by
  have HB : Hid (Below w.heap.size w (w.alloc (rcO r (.slice sa ns sc) (.slice da nd dc)))) := (Below.refl _ _).alloc (Nat.le_refl _) _
  have HS : Hid (suitB r = (decide (r.how ≤ 6))) := by unfold Hid suitB; rw [hk, if_neg (by decide), if_neg (by decide), if_neg (by decide), if_pos rfl]
  generalize suitB r = S at *
  obtain ⟨kind, org, num, peer, srv, off, red, size, how, spans, data⟩ := r
  simp only at HS ho hk
  subst hk
  clear hns hnd hs
  obtain ⟨ho0, ho1⟩ := ho
  rw [HS.out]
  go_enter Tryz.func120, Tryz.ntmps120
  go_wp2
  go_ret
  exact ⟨rfl, HB.out⟩
set_option maxRecDepth 100000 in
set_option maxHeartbeats 4000000 in
theorem suits_k6 (r : Rc) (sa da : Option Addr) (ns nd sc dc : Nat) (w : World) (hns : r.spans.length = ns) (hnd : r.data.length = nd) (hm : nd ≤ 140737488355328) (hs : C.Ls w (.slice sa ns sc) r.spans) (ho : 0 ≤ r.off ∧ r.off ≤ 4611686018427387903) (hk : r.kind = 6) :
    Calls Tryz.prog 120 #[.agg (rcC r (.slice sa ns sc) (.slice da nd dc))] w fun e w' => e = .returned (.bool (suitB r)) ∧ Below w.heap.size w w' := by
  have HB : Hid (Below w.heap.size w (w.alloc (rcO r (.slice sa ns sc) (.slice da nd dc)))) := (Below.refl _ _).alloc (Nat.le_refl _) _
  have HS : Hid (suitB r = (decide (1 ≤ (nd : Int)) && (decide (r.off + (nd : Int) ≤ 65536) && (lenB r.red (r.off + (nd : Int)) && lenB r.size (max (r.off + (nd : Int)) r.red))))) := by unfold Hid suitB; rw [hk, if_neg (by decide), if_neg (by decide), if_neg (by decide), if_neg (by decide), if_pos rfl]; rw [hnd]
  generalize suitB r = S at *
  obtain ⟨kind, org, num, peer, srv, off, red, size, how, spans, data⟩ := r
  simp only at HS ho hk
  subst hk
  clear hns hnd hs
  obtain ⟨ho0, ho1⟩ := ho
  rw [HS.out]
  have hwe : IntKind.i64.wrap (off + (nd : Int)) = off + (nd : Int) := by rw [IntKind.wrap_i64]; omega
  have HL1 : Hid (∀ W, Calls Tryz.prog 133 #[.int .i64 red, .int .i64 (off + (nd : Int))] W fun e w' => e = .returned (.bool (lenB red (off + (nd : Int)))) ∧ W = w') := fun W => isLength_any _ _ W
  have HL2 : Hid (∀ W, Calls Tryz.prog 133 #[.int .i64 size, .int .i64 (max (off + (nd : Int)) red)] W fun e w' => e = .returned (.bool (lenB size (max (off + (nd : Int)) red))) ∧ W = w') := fun W => isLength_any _ _ W
  generalize lenB red (off + (nd : Int)) = b3 at *
  generalize lenB size (max (off + (nd : Int)) red) = b4 at *
  by_cases p1 : 1 ≤ (nd : Int)
  · have p1' : decide (1 ≤ (nd : Int)) = true := decide_eq_true p1
    rw [p1', Bool.true_and]
    by_cases p2 : off + (nd : Int) ≤ 65536
    · have p2' : decide (off + (nd : Int) ≤ 65536) = true := decide_eq_true p2
      rw [p2', Bool.true_and]
      cases b3 with
      | false =>
        go_enter Tryz.func120, Tryz.ntmps120
        go_wp2_with (go_at_call 133; refine (HL1.out _).mono ?_; rintro e w' ⟨rfl, rfl⟩)
        go_ret
        exact ⟨rfl, HB.out⟩
      | true =>
        go_enter Tryz.func120, Tryz.ntmps120
        go_wp2_with fail
        refine (HL1.out _).mono ?_
        rintro e w' ⟨rfl, rfl⟩
        go_wp2_with fail
        refine (HL2.out _).mono ?_
        rintro e w' ⟨rfl, rfl⟩
        go_wp2
        go_ret
        exact ⟨rfl, HB.out⟩
    · have p2' : decide (off + (nd : Int) ≤ 65536) = false := decide_eq_false p2
      rw [p2']
      go_enter Tryz.func120, Tryz.ntmps120
      go_wp2
      go_ret
      exact ⟨rfl, HB.out⟩
  · have p1' : decide (1 ≤ (nd : Int)) = false := decide_eq_false p1
    rw [p1']
    go_enter Tryz.func120, Tryz.ntmps120
    go_wp2
    go_ret
    exact ⟨rfl, HB.out⟩
set_option maxRecDepth 100000 in
set_option maxHeartbeats 4000000 in
theorem suits_k8 (r : Rc) (sa da : Option Addr) (ns nd sc dc : Nat) (w : World) (hns : r.spans.length = ns) (hnd : r.data.length = nd) (hm : nd ≤ 140737488355328) (hs : C.Ls w (.slice sa ns sc) r.spans) (ho : 0 ≤ r.off ∧ r.off ≤ 4611686018427387903) (hk : r.kind = 8) :
    Calls Tryz.prog 120 #[.agg (rcC r (.slice sa ns sc) (.slice da nd dc))] w fun e w' => e = .returned (.bool (suitB r)) ∧ Below w.heap.size w w' := by
  have HB : Hid (Below w.heap.size w (w.alloc (rcO r (.slice sa ns sc) (.slice da nd dc)))) := (Below.refl _ _).alloc (Nat.le_refl _) _
  have HS : Hid (suitB r = (decide (r.how ≤ 5))) := by unfold Hid suitB; rw [hk, if_neg (by decide), if_neg (by decide), if_neg (by decide), if_neg (by decide), if_neg (by decide), if_pos rfl]
  generalize suitB r = S at *
  obtain ⟨kind, org, num, peer, srv, off, red, size, how, spans, data⟩ := r
  simp only at HS ho hk
  subst hk
  clear hns hnd hs
  obtain ⟨ho0, ho1⟩ := ho
  rw [HS.out]
  go_enter Tryz.func120, Tryz.ntmps120
  go_wp2
  go_ret
  exact ⟨rfl, HB.out⟩
set_option maxRecDepth 100000 in
set_option maxHeartbeats 4000000 in
theorem suits_k11 (r : Rc) (sa da : Option Addr) (ns nd sc dc : Nat) (w : World) (hns : r.spans.length = ns) (hnd : r.data.length = nd) (hm : nd ≤ 140737488355328) (hs : C.Ls w (.slice sa ns sc) r.spans) (ho : 0 ≤ r.off ∧ r.off ≤ 4611686018427387903) (hk : r.kind = 11) :
    Calls Tryz.prog 120 #[.agg (rcC r (.slice sa ns sc) (.slice da nd dc))] w fun e w' => e = .returned (.bool (suitB r)) ∧ Below w.heap.size w w' := by
  have HB : Hid (Below w.heap.size w (w.alloc (rcO r (.slice sa ns sc) (.slice da nd dc)))) := (Below.refl _ _).alloc (Nat.le_refl _) _
  have HT : Hid (Calls Tryz.prog 134 #[.slice sa ns sc] (w.alloc (rcO r (.slice sa ns sc) (.slice da nd dc))) fun e w' => e = .returned (.bool (tombB r.spans)) ∧ Below (w.alloc (rcO r (.slice sa ns sc) (.slice da nd dc))).heap.size (w.alloc (rcO r (.slice sa ns sc) (.slice da nd dc))) w') := areTombs_any r.spans sa ns sc _ hns (hs.below HB.out)
  have HS : Hid (suitB r = (decide (1 ≤ r.size) && tombB r.spans)) := by unfold Hid suitB; rw [hk, if_neg (by decide), if_neg (by decide), if_neg (by decide), if_neg (by decide), if_neg (by decide), if_neg (by decide), if_pos rfl]
  generalize suitB r = S at *
  generalize tombB r.spans = tb at *
  obtain ⟨kind, org, num, peer, srv, off, red, size, how, spans, data⟩ := r
  simp only at HS ho hk
  subst hk
  clear hns hnd hs
  obtain ⟨ho0, ho1⟩ := ho
  rw [HS.out]
  by_cases p1 : 1 ≤ size
  · have p1' : decide (1 ≤ size) = true := decide_eq_true p1
    rw [p1', Bool.true_and]
    go_enter Tryz.func120, Tryz.ntmps120
    go_wp2_with (go_at_call 134; refine HT.out.mono ?_; rintro e w2 ⟨rfl, hb2⟩)
    go_ret
    exact ⟨rfl, HB.out.trans (hb2.mono HB.out.size)⟩
  · have p1' : decide (1 ≤ size) = false := decide_eq_false p1
    rw [p1']
    go_enter Tryz.func120, Tryz.ntmps120
    go_wp2
    go_ret
    exact ⟨rfl, HB.out⟩
set_option maxRecDepth 100000 in
set_option maxHeartbeats 4000000 in
theorem suits_k12 (r : Rc) (sa da : Option Addr) (ns nd sc dc : Nat) (w : World) (hns : r.spans.length = ns) (hnd : r.data.length = nd) (hm : nd ≤ 140737488355328) (hs : C.Ls w (.slice sa ns sc) r.spans) (ho : 0 ≤ r.off ∧ r.off ≤ 4611686018427387903) (hk : r.kind = 12) :
    Calls Tryz.prog 120 #[.agg (rcC r (.slice sa ns sc) (.slice da nd dc))] w fun e w' => e = .returned (.bool (suitB r)) ∧ Below w.heap.size w w' := by
  have HB : Hid (Below w.heap.size w (w.alloc (rcO r (.slice sa ns sc) (.slice da nd dc)))) := (Below.refl _ _).alloc (Nat.le_refl _) _
  have HS : Hid (suitB r = ((decide (1 ≤ r.red) && decide (r.red ≤ 65536)) && lenB r.size r.red)) := by unfold Hid suitB; rw [hk, if_neg (by decide), if_neg (by decide), if_neg (by decide), if_neg (by decide), if_neg (by decide), if_neg (by decide), if_neg (by decide), if_pos rfl]
  generalize suitB r = S at *
  obtain ⟨kind, org, num, peer, srv, off, red, size, how, spans, data⟩ := r
  simp only at HS ho hk
  subst hk
  clear hns hnd hs
  obtain ⟨ho0, ho1⟩ := ho
  rw [HS.out]
  have HC : Hid (∀ W, Calls Tryz.prog 132 #[.int .i64 red, .int .i64 1, .int .i64 65536] W fun e w' => e = .returned (.bool (decide (1 ≤ red) && decide (red ≤ 65536))) ∧ W = w') := fun W => rbetween_any red 1 65536 W
  generalize (decide (1 ≤ red) && decide (red ≤ 65536)) = b2 at *
  cases b2 with
  | false =>
    go_enter Tryz.func120, Tryz.ntmps120
    go_wp2_with (go_at_call 132; refine (HC.out _).mono ?_; rintro e w' ⟨rfl, rfl⟩)
    go_ret
    exact ⟨rfl, HB.out⟩
  | true =>
    go_enter Tryz.func120, Tryz.ntmps120
    go_wp2_with (first | (go_at_call 132; refine (HC.out _).mono ?_; rintro e w' ⟨rfl, rfl⟩) | (go_at_call 133; refine (isLength_any _ _ _).mono ?_; rintro e w' ⟨rfl, rfl⟩))
    go_ret
    exact ⟨rfl, HB.out⟩
set_option maxRecDepth 100000 in
set_option maxHeartbeats 4000000 in
theorem suits_no (r : Rc) (sa da : Option Addr) (ns nd sc dc : Nat) (w : World) (hns : r.spans.length = ns) (hnd : r.data.length = nd) (hm : nd ≤ 140737488355328) (hs : C.Ls w (.slice sa ns sc) r.spans) (ho : 0 ≤ r.off ∧ r.off ≤ 4611686018427387903) (hk : r.kind ≠ 1 ∧ r.kind ≠ 2 ∧ r.kind ≠ 3 ∧ r.kind ≠ 4 ∧ r.kind ≠ 6 ∧ r.kind ≠ 8 ∧ r.kind ≠ 11 ∧ r.kind ≠ 12) :
    Calls Tryz.prog 120 #[.agg (rcC r (.slice sa ns sc) (.slice da nd dc))] w fun e w' => e = .returned (.bool (suitB r)) ∧ Below w.heap.size w w' := by
  have HB : Hid (Below w.heap.size w (w.alloc (rcO r (.slice sa ns sc) (.slice da nd dc)))) := (Below.refl _ _).alloc (Nat.le_refl _) _
  obtain ⟨k1, k2, k3, k4, k6, k8, k11, k12⟩ := hk
  have HS : Hid (suitB r = true) := by unfold Hid suitB; rw [if_neg k1, if_neg k2, if_neg k3, if_neg k4, if_neg k6, if_neg k8, if_neg k11, if_neg k12]
  rw [HS.out]
  clear HS hs
  go_enter Tryz.func120, Tryz.ntmps120
  go_wp2
  go_ret
  exact ⟨rfl, HB.out⟩
theorem suits_any (r : Rc) (sa da : Option Addr) (ns nd sc dc : Nat) (w : World) (hns : r.spans.length = ns) (hnd : r.data.length = nd) (hm : nd ≤ 140737488355328) (hs : C.Ls w (.slice sa ns sc) r.spans) (ho : 0 ≤ r.off ∧ r.off ≤ 4611686018427387903) :
    Calls Tryz.prog 120 #[.agg (rcC r (.slice sa ns sc) (.slice da nd dc))] w fun e w' => e = .returned (.bool (suitB r)) ∧ Below w.heap.size w w' := by
  by_cases k1 : r.kind = 1
  · exact suits_k1 r sa da ns nd sc dc w hns hnd hm hs ho k1
  by_cases k2 : r.kind = 2
  · exact suits_k2 r sa da ns nd sc dc w hns hnd hm hs ho k2
  by_cases k3 : r.kind = 3
  · exact suits_k3 r sa da ns nd sc dc w hns hnd hm hs ho k3
  by_cases k4 : r.kind = 4
  · exact suits_k4 r sa da ns nd sc dc w hns hnd hm hs ho k4
  by_cases k6 : r.kind = 6
  · exact suits_k6 r sa da ns nd sc dc w hns hnd hm hs ho k6
  by_cases k8 : r.kind = 8
  · exact suits_k8 r sa da ns nd sc dc w hns hnd hm hs ho k8
  by_cases k11 : r.kind = 11
  · exact suits_k11 r sa da ns nd sc dc w hns hnd hm hs ho k11
  by_cases k12 : r.kind = 12
  · exact suits_k12 r sa da ns nd sc dc w hns hnd hm hs ho k12
  exact suits_no r sa da ns nd sc dc w hns hnd hm hs ho ⟨k1, k2, k3, k4, k6, k8, k11, k12⟩
end Go.Proofs.YtllhbhogfffedaaGreatDoor
