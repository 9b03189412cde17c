import Derived.Test.YtkkmoplijicmpaeDoorChecked
import Derived.Test.YtkkmoplijicmpaeDoorClmMath
import Derived.WalkKit
import Derived.WalkSpells
import Derived.WalkMore
import Derived.Deep.LoopGhost
import Derived.WalkLawsBesides
import Derived.Laws.Rows
import Derived.Deep.QuietTactic
import Derived.BigQuiet
import Derived.WalkSmall
import Derived.Maps.AppendAt
import Derived.OwnWalk
import Derived.Laws.OwnMore
namespace Go.Proofs.YtkkmoplijicmpaeDoor.C
open Go.RowKit

/-! ## Memory -/

/-- Spans lie at a slice's head. -/
structure CIn (w : World) (v : Value) (cl : List Sp) : Prop where
  shape : ∃ a c, v = .slice a cl.length c ∧ (cl = [] ∨ ∃ g off, a = some ⟨g, off, none⟩ ∧ ∀ (i : Nat) (p : Sp), cl[i]? = some p → w.cell? ⟨g, off + i * 2, none⟩ = some (.int .i64 p.1) ∧ w.cell? ⟨g, off + i * 2 + 1, none⟩ = some (.int .i64 p.2))
  small : cl.length ≤ 1048576

/-- What the walks take of it. -/
def Spa (w : World) (a : Option Addr) (cl : List Sp) : Prop := cl = [] ∨ ∃ g off, a = some ⟨g, off, none⟩ ∧ ∀ (i : Nat) (p : Sp), cl[i]? = some p → w.cell? ⟨g, off + i * 2, none⟩ = some (.int .i64 p.1) ∧ w.cell? ⟨g, off + i * 2 + 1, none⟩ = some (.int .i64 p.2)

theorem cell_below {w w' : World} {g o : Nat} {u : Value} (h : w.cell? ⟨g, o, none⟩ = some u) (hb : Below w.heap.size w w') : w'.cell? ⟨g, o, none⟩ = some u :=
  (hb.cell (p := ⟨g, o, none⟩) (World.block_lt_of_cell? w ⟨g, o, none⟩ h)).trans h
theorem Spa.below {w w' : World} {a : Option Addr} {cl : List Sp} (h : Spa w a cl) (hb : Below w.heap.size w w') : Spa w' a cl := by
  rcases h with h | ⟨g, off, ha, h⟩
  · exact .inl h
  · exact .inr ⟨g, off, ha, fun i p hp => ⟨cell_below (h i p hp).1 hb, cell_below (h i p hp).2 hb⟩⟩
theorem CIn.below {w w' : World} {v : Value} {cl : List Sp} (h : CIn w v cl) (hb : Below w.heap.size w w') : CIn w' v cl := by
  obtain ⟨a, c, hv, hs⟩ := h.shape
  exact ⟨⟨a, c, hv, Spa.below hs hb⟩, h.small⟩
theorem Spa.at {w : World} {a : Option Addr} {cl : List Sp} (h : Spa w a cl) {k : Nat} {p : Sp} (hk : cl[k]? = some p) : ∃ g off, a = some ⟨g, off, none⟩ ∧ w.cell? ⟨g, off + k * 2, none⟩ = some (.int .i64 p.1) ∧ w.cell? ⟨g, off + k * 2 + 1, none⟩ = some (.int .i64 p.2) := by
  rcases h with rfl | ⟨g, off, ha, h⟩
  · simp at hk
  · exact ⟨g, off, ha, h k p hk⟩
theorem drop_get {α : Type} (l : List α) (k : Nat) (x : α) (h : l[k]? = some x) : l.drop k = x :: l.drop (k + 1) := by
  obtain ⟨hk, hx⟩ := List.getElem?_eq_some_iff.mp h
  rw [List.drop_eq_getElem_cons hk, hx]
theorem get_some {α : Type} (l : List α) (k : Nat) (h : k < l.length) : ∃ x, l[k]? = some x := ⟨l[k], List.getElem?_eq_getElem h⟩

theorem grown_trans {a b c : World} {row : Option Nat} (h : a.grownBy b row) (h' : b.grownBy c row) : a.grownBy c row :=
  ⟨h'.os.trans h.os, h'.tape.trans h.tape, h'.output.trans h.output, Nat.le_trans h.size h'.size, fun k hk hne => (h'.block k (Nat.lt_of_lt_of_le hk h.size) hne).trans (h.block k hk hne)⟩
theorem heap_alloc_new' (w : World) (o : Obj) : (w.alloc o).heap[w.heap.size]? = some o := by
  have : (w.alloc o).heap = w.heap.push o := rfl
  rw [this]; simp
theorem box0 (w : World) (x y : Value) (t : TypeId) : (w.alloc (.cells #[x, y] t)).cell? ⟨w.heap.size, 0, none⟩ = some x := by simp
theorem box1 (w : World) (x y : Value) (t : TypeId) : (w.alloc (.cells #[x, y] t)).cell? ⟨w.heap.size, 1, none⟩ = some y := by simp

/-! ## Is it a set? -/
def askB (s : Sp) : Bool := decide (0 ≤ s.1) && (decide (s.1 ≤ s.2) && decide (s.2 ≤ 4611686018427387903))
def mayB (s : Sp) : Bool := askB s && decide (s.1 < s.2)
theorem askB_iff {s : Sp} : askB s = true ↔ Asked s := by simp [askB, Asked]
def rtB : Int → List Sp → Bool
  | _, [] => true
  | lo, s :: r => mayB s && (decide (lo ≤ s.1) && rtB (s.2 + 1) r)
theorem rtB_iff : ∀ {l : List Sp} {lo : Int}, 0 ≤ lo → (rtB lo l = true ↔ Rt lo l)
  | [], _, _ => by simp [rtB, Rt]
  | s :: r, lo, h => by
    simp only [rtB, Rt, mayB, askB, Bool.and_eq_true, decide_eq_true_eq]
    constructor
    · rintro ⟨⟨⟨a, b, c⟩, d⟩, e, f⟩
      exact ⟨e, d, c, (rtB_iff (by omega)).mp f⟩
    · rintro ⟨a, b, c, d⟩
      exact ⟨⟨⟨by omega, by omega, c⟩, b⟩, a, (rtB_iff (by omega)).mpr d⟩
def setB (l : List Sp) : Bool := decide (l.length ≤ 2000) && rtB 0 l
theorem setB_iff {l : List Sp} : setB l = true ↔ IsSet l := by
  simp only [setB, IsSet, Bool.and_eq_true, decide_eq_true_eq, rtB_iff (Int.le_refl 0)]

theorem asked_any (f t : Int) (w : World) : Calls Tryd.prog 115 #[.agg #[.int .i64 f, .int .i64 t]] w fun e w' => e = .returned (.bool (askB (f, t))) ∧ Below w.heap.size w w' := by
  have hb : Below w.heap.size w (w.alloc (.cells #[.int .i64 f, .int .i64 t] 36)) := (Below.refl _ _).alloc (Nat.le_refl _) _
  have HB : Hid (Below w.heap.size w (w.alloc (.cells #[.int .i64 f, .int .i64 t] 36))) := hb
  clear hb
  go_enter Tryd.func115, Tryd.ntmps115
  by_cases h1 : 0 ≤ f
  · by_cases h2 : f ≤ t
    · by_cases h3 : t ≤ 4611686018427387903
      · go_wp2
        go_ret
        exact ⟨by simp [askB, h1, h2, h3], HB.out⟩
      · go_wp2
        go_ret
        exact ⟨by simp [askB, h3], HB.out⟩
    · go_wp2
      go_ret
      exact ⟨by simp [askB]; omega, HB.out⟩
  · go_wp2
    go_ret
    exact ⟨by simp [askB]; omega, HB.out⟩

theorem may_any (f t : Int) (w : World) : Calls Tryd.prog 119 #[.agg #[.int .i64 f, .int .i64 t]] w fun e w' => e = .returned (.bool (mayB (f, t))) ∧ Below w.heap.size w w' := by
  have hb : Below w.heap.size w (w.alloc (.cells #[.int .i64 f, .int .i64 t] 36)) := (Below.refl _ _).alloc (Nat.le_refl _) _
  have HB : Hid (Below w.heap.size w (w.alloc (.cells #[.int .i64 f, .int .i64 t] 36))) := hb
  clear hb
  have HA := asked_any f t (w.alloc (.cells #[.int .i64 f, .int .i64 t] 36))
  unfold mayB
  generalize askB (f, t) = q at HA ⊢
  go_enter Tryd.func119, Tryd.ntmps119
  go_wp2_with fail
  refine HA.mono ?_
  rintro e w2 ⟨rfl, hb2⟩
  clear HA
  have c0 : w2.cell? ⟨w.heap.size, 0, none⟩ = some (.int .i64 f) := (hb2.cell (p := ⟨w.heap.size, 0, none⟩) (by simp)).trans (box0 _ _ _ _)
  have c1 : w2.cell? ⟨w.heap.size, 1, none⟩ = some (.int .i64 t) := (hb2.cell (p := ⟨w.heap.size, 1, none⟩) (by simp)).trans (box1 _ _ _ _)
  have HB2 : Hid (Below w.heap.size w w2) := HB.out.trans (hb2.mono (by simp))
  clear hb2 HB
  cases q with
  | false =>
    go_wp2
    go_ret
    exact ⟨by simp, HB2.out⟩
  | true =>
    by_cases h : f < t
    · go_wp2
      go_ret
      exact ⟨by simp [h], HB2.out⟩
    · go_wp2
      go_ret
      exact ⟨by simp, HB2.out⟩

end Go.Proofs.YtkkmoplijicmpaeDoor.C

namespace Go.Proofs.YtkkmoplijicmpaeDoor.C
open Go.RowKit

set_option maxHeartbeats 1000000 in
theorem right_any (a : Option Addr) (c : Nat) (l : List Sp) (w : World) (h : Spa w a l) (hm : l.length ≤ 9223372036854775807) : Calls Tryd.prog 76 #[.slice a l.length c] w fun e w' => e = .returned (.bool (setB l)) ∧ Below w.heap.size w w' := by
  have HS : Hid (Spa w a l) := h
  clear h
  go_enter Tryd.func76, Tryd.ntmps76
  by_cases h2 : 2000 < l.length
  · have h2' : (2000 : Int) < (l.length : Int) := by omega
    have HV : Hid (setB l = false) := by unfold Hid setB; rw [decide_eq_false (by omega)]; rfl
    generalize setB l = V at *
    go_wp2
    go_ret
    exact ⟨by rw [HV.out]; rfl, Below.refl _ _⟩
  · have h2' : ¬ (2000 : Int) < (l.length : Int) := by omega
    have HE : Hid (rtB 0 l = setB l) := by unfold Hid setB; rw [decide_eq_true (by omega)]; rfl
    generalize setB l = V at *
    go_wp2_with fail
    go_loopw [3, 11] (fun q i wr => ∃ (k : Nat) (least : Int), k ≤ l.length ∧ i = .int .i64 k ∧ q = .int .i64 least ∧ 0 ≤ least ∧ Below w.heap.size w wr ∧ rtB least (l.drop k) = V) (fun _ i _ => l.length - (intOf i).toNat)
    case atStart => exact ⟨0, 0, by omega, rfl, rfl, by omega, Below.refl _ _, HE.out⟩
    case round =>
      obtain ⟨k, least, hk, rfl, rfl, hl0, hbe, hrt⟩ := hrel
      have HBe : Hid (Below w.heap.size w wr) := hbe
      have HR : Hid (rtB least (l.drop k) = V) := hrt
      clear hbe hrt HE
      by_cases hlt : k < l.length
      · have hlt' : (k : Int) < (l.length : Int) := by omega
        obtain ⟨p, hp⟩ := get_some l k hlt
        obtain ⟨g, off, rfl, q1, q2⟩ := (HS.out.below HBe.out).at hp
        rw [drop_get l k p hp] at HR
        obtain ⟨p1, p2⟩ := p
        simp only at q1 q2
        have HR2 : Hid ((mayB (p1, p2) && (decide (least ≤ p1) && rtB (p2 + 1) (l.drop (k + 1)))) = V) := HR.out
        have hA := may_any p1 p2 (wr.alloc (.cells #[.int .i64 p1, .int .i64 p2] 36))
        have HM : Hid (mayB (p1, p2) = true → 0 ≤ p1 ∧ p1 < p2 ∧ p2 ≤ 4611686018427387903) := by
          intro h; simp [mayB, askB] at h; omega
        clear hp HR
        generalize mayB (p1, p2) = m at *
        go_wp2_with fail
        refine hA.mono ?_
        rintro e w2 ⟨rfl, hb2⟩
        clear hA
        have c0 : w2.cell? ⟨wr.heap.size, 0, none⟩ = some (.int .i64 p1) := (hb2.cell (p := ⟨wr.heap.size, 0, none⟩) (by simp)).trans (box0 _ _ _ _)
        have c1 : w2.cell? ⟨wr.heap.size, 1, none⟩ = some (.int .i64 p2) := (hb2.cell (p := ⟨wr.heap.size, 1, none⟩) (by simp)).trans (box1 _ _ _ _)
        have HB2 : Hid (Below w.heap.size w w2) := (HBe.out.alloc HBe.out.size _).trans (hb2.mono (by have := HBe.out.size; simp; omega))
        clear hb2 HBe q1 q2
        cases m with
        | false =>
          have HV : Hid (V = false) := HR2.out.symm
          go_wp2
          go_ret
          exact ⟨by rw [HV.out]; rfl, HB2.out⟩
        | true =>
          obtain ⟨m1, m2, m3⟩ := HM.out rfl
          by_cases e1 : p1 < least
          · have HV : Hid (V = false) := by have := HR2.out; rw [decide_eq_false (by omega)] at this; exact this.symm
            go_wp2
            go_ret
            exact ⟨by rw [HV.out]; rfl, HB2.out⟩
          · have HR3 : Hid (rtB (p2 + 1) (l.drop (k + 1)) = V) := by have := HR2.out; rw [decide_eq_true (by omega)] at this; exact this
            clear HR2 HM
            go_wp2
            go_roundw
            case rel => exact ⟨k + 1, p2 + 1, by omega, by go_num, by go_num, by omega, HB2.out, HR3.out⟩
            case measure => simp [intOf]; omega
      · have hkn : k = l.length := by omega
        have HV : Hid (V = true) := by have := HR.out; rw [hkn, List.drop_length] at this; exact this.symm
        clear HR
        subst hkn
        go_wp2
        go_ret
        exact ⟨by rw [HV.out]; rfl, HBe.out⟩

end Go.Proofs.YtkkmoplijicmpaeDoor.C

namespace Go.Proofs.YtkkmoplijicmpaeDoor.C
open Go.RowKit

/-- How many bytes a set has. -/
def szB (l : List Sp) : Int := if setB l then siz l else 0

theorem siz_take {l : List Sp} {k : Nat} {p : Sp} (h : l[k]? = some p) : siz (l.take (k + 1)) = siz (l.take k) + (p.2 - p.1) := by
  rw [List.take_add_one, h, siz_append]; simp [siz]
theorem siz_bound {l : List Sp} (h : IsSet l) (k : Nat) : 0 ≤ siz (l.take k) ∧ siz (l.take k) ≤ 4611686018427387904 := by
  have hr : Rt 0 (l.take k) := Rt.cut (l := l.drop k) (by rw [List.take_append_drop]; exact h.2)
  have := siz_pos hr
  have := siz_most hr (by omega)
  omega

set_option maxHeartbeats 1000000 in
theorem size_any (a : Option Addr) (c : Nat) (l : List Sp) (w : World) (h : Spa w a l) (hm : l.length ≤ 9223372036854775807) : Calls Tryd.prog 67 #[.slice a l.length c] w fun e w' => e = .returned (.int .i64 (szB l)) ∧ Below w.heap.size w w' := by
  have HS : Hid (Spa w a l) := h
  have hR := right_any a c l w h hm
  unfold szB
  have HI : Hid (setB l = true → IsSet l) := setB_iff.mp
  clear h
  generalize setB l = V at *
  go_enter Tryd.func67, Tryd.ntmps67
  go_wp2_with fail
  refine hR.mono ?_
  rintro e w1 ⟨rfl, hb1⟩
  clear hR
  have HB1 : Hid (Below w.heap.size w w1) := hb1
  clear hb1
  cases V with
  | false =>
    go_wp2
    go_ret
    exact ⟨rfl, HB1.out⟩
  | true =>
    have HQ : Hid (IsSet l) := HI.out rfl
    have hl2 : l.length ≤ 2000 := HQ.out.1
    clear HI
    go_wp2_with fail
    go_loopw [3, 11] (fun q i wr => ∃ (k : Nat), k ≤ l.length ∧ i = .int .i64 k ∧ q = .int .i64 (siz (l.take k)) ∧ Below w.heap.size w wr) (fun _ i _ => l.length - (intOf i).toNat)
    case atStart => exact ⟨0, by omega, rfl, rfl, HB1.out⟩
    case round =>
      obtain ⟨k, hk, rfl, rfl, hbe⟩ := hrel
      have HBe : Hid (Below w.heap.size w wr) := hbe
      clear hbe
      by_cases hlt : k < l.length
      · have hlt' : (k : Int) < (l.length : Int) := by omega
        obtain ⟨p, hp⟩ := get_some l k hlt
        obtain ⟨g, off, rfl, q1, q2⟩ := (HS.out.below HBe.out).at hp
        have HT := siz_take hp
        have b1 := siz_bound HQ.out k
        have b2 := siz_bound HQ.out (k + 1)
        have hpm := HQ.out.2.mem p (List.mem_of_getElem? hp)
        obtain ⟨p1, p2⟩ := p
        simp only at q1 q2 HT hpm
        have HT2 : Hid (siz (l.take (k + 1)) = siz (l.take k) + (p2 - p1)) := HT
        rw [HT] at b2
        have HB2 : Hid (Below w.heap.size w (wr.alloc (.cells #[.int .i64 p1, .int .i64 p2] 36))) := HBe.out.alloc HBe.out.size _
        clear HT hp HBe
        generalize siz (l.take k) = n at *
        go_wp2
        go_roundw
        case rel => exact ⟨k + 1, by omega, by go_num, by rw [HT2.out], HB2.out⟩
        case measure => simp [intOf]; omega
      · have hkn : k = l.length := by omega
        subst hkn
        go_wp2
        go_ret
        exact ⟨rfl, HBe.out⟩

theorem bounded_any (v : Option Addr) (n c : Nat) (w : World) (hn : n ≤ 1048576) : Calls Tryd.prog 117 #[.slice v n c] w fun e w' => e = .returned (if n ≤ 2000 then .tuple #[.slice v n c, .int .i64 0] else .tuple #[.slice none 0 0, .int .i64 3]) ∧ w = w' := by
  go_enter Tryd.func117, Tryd.ntmps117
  by_cases h : n ≤ 2000
  · have h' : (n : Int) ≤ 2000 := by omega
    rw [if_pos h]
    go_wp2
    go_ret2
    exact ⟨rfl, rfl⟩
  · have h' : ¬ (n : Int) ≤ 2000 := by omega
    rw [if_neg h]
    go_wp2
    go_ret2
    exact ⟨rfl, rfl⟩

end Go.Proofs.YtkkmoplijicmpaeDoor.C

namespace Go.Proofs.YtkkmoplijicmpaeDoor.C
open Go.RowKit

def spc (p : Sp) : List Value := [.int .i64 p.1, .int .i64 p.2]
theorem Tryd.info_span : (Tryd.prog.info? 36).map (fun i => (i.zero, i.size, i.bytes)) = some (some (.agg #[.int .i64 0, .int .i64 0]), 2, 16) := by kernel_rfl

/-- A row of spans of the call's own. -/
def SOwn (w : World) (base : Nat) (v : Value) (l : List Sp) : Prop := w.ownsRow base 36 2 v l.length (l.flatMap spc)

theorem own_shape {w : World} {base n sz : Nat} {e : TypeId} {v : Value} {xs : List Value} (h : w.ownsRow base e sz v n xs) : ∃ a cap, v = .slice a n cap := by
  obtain ⟨_, ⟨rfl, rfl⟩ | ⟨g, cap, cur, rfl, _⟩⟩ := h
  · exact ⟨none, 0, rfl⟩
  · exact ⟨_, cap, rfl⟩
theorem own_some {w : World} {base n sz : Nat} {e : TypeId} {v : Value} {xs : List Value} (h : w.ownsRow base e sz v n xs) (hn : 0 < n) : ∃ g cap, v = .slice (some ⟨g, 0, none⟩) n cap := by
  obtain ⟨_, ⟨rfl, rfl⟩ | ⟨g, cap, cur, rfl, _⟩⟩ := h
  · omega
  · exact ⟨g, cap, rfl⟩
theorem spc_get (l : List Sp) (i : Nat) (p : Sp) (h : l[i]? = some p) : (l.flatMap spc)[i * 2]? = some (.int .i64 p.1) ∧ (l.flatMap spc)[i * 2 + 1]? = some (.int .i64 p.2) := by
  induction l generalizing i with
  | nil => simp at h
  | cons s r ih =>
    cases i with
    | zero => simp at h; subst h; simp [spc]
    | succ i =>
      simp at h
      have := ih i h
      rw [List.flatMap_cons, List.getElem?_append_right (by simp [spc]; omega), List.getElem?_append_right (by simp [spc]; omega)]
      simp only [spc, List.length_cons, List.length_nil]
      rw [show (i + 1) * 2 - (0 + 1 + 1) = i * 2 from by omega, show (i + 1) * 2 + 1 - (0 + 1 + 1) = i * 2 + 1 from by omega]
      exact this
theorem spc_len (l : List Sp) : (l.flatMap spc).length = l.length * 2 := by
  induction l with
  | nil => rfl
  | cons s r ih => simp [spc, ih]; omega
theorem SOwn.spa {w : World} {base : Nat} {a : Option Addr} {n c : Nat} {l : List Sp} (h : SOwn w base (.slice a n c) l) : Spa w a l := by
  by_cases hl : l = []
  · exact .inl hl
  · have hp := List.length_pos_iff.mpr hl
    obtain ⟨g, cap, hv⟩ := own_some h hp
    simp only [Value.slice.injEq] at hv
    obtain ⟨rfl, rfl, rfl⟩ := hv
    refine .inr ⟨g, 0, rfl, fun i p hi => ?_⟩
    have hil : i < l.length := (List.getElem?_eq_some_iff.mp hi).1
    obtain ⟨q1, q2⟩ := spc_get l i p hi
    rw [Nat.zero_add]
    exact ⟨(World.ownsRow.cellAt h _ (by omega)).trans q1, (World.ownsRow.cellAt h _ (by omega)).trans q2⟩
theorem cell_two_new (w : World) (x y : Value) (t : TypeId) : ∀ j u, [x, y][j]? = some u → (w.alloc (.cells #[x, y] t)).cell? ((⟨w.heap.size, 0, none⟩ : Addr).add j) = some u := by
  intro j u hj
  match j, hj with
  | 0, hj => simp at hj; subst hj; simp [Addr.add]
  | 1, hj => simp at hj; subst hj; simp [Addr.add]
theorem grown_alloc (w : World) (o : Obj) (row : Option Nat) : w.grownBy (w.alloc o) row :=
  ⟨rfl, rfl, rfl, by simp, fun k hk _ => Below.heap_alloc w o k hk⟩
theorem grown_drewN (w : World) (n : Nat) (row : Option Nat) : w.grownBy (w.drewN n) row := ⟨rfl, rfl, rfl, Nat.le_refl _, fun _ _ _ => rfl⟩
theorem grown_set (w : World) (g i : Nat) (u : Value) : w.grownBy (w.setCell ⟨g, i, none⟩ u) (some g) :=
  ⟨rfl, rfl, rfl, by simp [World.setCell], fun k _ hne => Below.heap_setCell _ _ _ _ (fun e => hne (by rw [e]))⟩

def JoinPost (w : World) (base : Nat) (v : Value) (l : List Sp) (e : Ending) (w' : World) : Prop := ∃ v', e = .returned v' ∧ SOwn w' base v' l ∧ w.grownBy w' v.ownBlock

end Go.Proofs.YtkkmoplijicmpaeDoor.C

namespace Go.Proofs.YtkkmoplijicmpaeDoor.C
open Go.RowKit

def lenV : Value → Nat
  | .slice _ n _ => n
  | _ => 0

theorem SOwn.drewN {w : World} {base : Nat} {v : Value} {l : List Sp} (h : SOwn w base v l) (n : Nat) : SOwn (w.drewN n) base v l := h
theorem SOwn.lt {w : World} {base : Nat} {v : Value} {l : List Sp} (h : SOwn w base v l) : ∀ k, v.ownBlock = some k → base ≤ k ∧ k < w.heap.size := World.ownsRow.lt h
theorem SOwn.shape {w : World} {base : Nat} {v : Value} {l : List Sp} (h : SOwn w base v l) : ∃ a c, v = .slice a l.length c := own_shape h
theorem SOwn.below {w w' : World} {base : Nat} {v : Value} {l : List Sp} (h : SOwn w base v l) (hb : Below w.heap.size w w') : SOwn w' base v l := by
  refine ⟨h.1, ?_⟩
  rcases h.2 with hn | ⟨g, cap, cur, hv, h1, h2, h3⟩
  · exact .inl hn
  · have hg : g < w.heap.size := (h.lt g (by rw [hv]; rfl)).2
    exact .inr ⟨g, cap, cur, hv, h1, (hb.block g hg).trans h2, h3⟩
theorem SOwn.base {w : World} {base base' : Nat} {v : Value} {l : List Sp} (h : SOwn w base v l) (hb : base' ≤ base) : SOwn w base' v l := by
  refine ⟨h.1, ?_⟩
  rcases h.2 with hn | ⟨g, cap, cur, hv, h1, h2, h3⟩
  · exact .inl hn
  · exact .inr ⟨g, cap, cur, hv, by omega, h2, h3⟩

theorem Spa.tail {w : World} {g off : Nat} {p : Sp} {r : List Sp} (h : Spa w (some ⟨g, off, none⟩) (p :: r)) : Spa w (some ⟨g, off + 2, none⟩) r := by
  rcases h with h | ⟨g', off', ha, h⟩
  · cases h
  · simp only [Option.some.injEq, Addr.mk.injEq, and_true] at ha
    obtain ⟨rfl, rfl⟩ := ha
    refine .inr ⟨g, off + 2, rfl, fun i q hq => ?_⟩
    have := h (i + 1) q (by simpa using hq)
    rw [show off + (i + 1) * 2 = off + 2 + i * 2 from by omega] at this
    exact this
theorem Spa.head {w : World} {a : Option Addr} {p : Sp} {r : List Sp} (h : Spa w a (p :: r)) : ∃ g off, a = some ⟨g, off, none⟩ ∧ w.cell? ⟨g, off, none⟩ = some (.int .i64 p.1) ∧ w.cell? ⟨g, off + 1, none⟩ = some (.int .i64 p.2) := by
  obtain ⟨g, off, ha, h1, h2⟩ := h.at (k := 0) (p := p) rfl
  exact ⟨g, off, ha, by simpa using h1, by simpa using h2⟩

def MergePost (w : World) (l m : List Sp) (e : Ending) (w' : World) : Prop := ∃ v u, e = .returned v ∧ SOwn w' w.heap.size v u ∧ Uni l m u ∧ Below w.heap.size w w'

end Go.Proofs.YtkkmoplijicmpaeDoor.C

namespace Go.Proofs.YtkkmoplijicmpaeDoor.C
open Go.RowKit

def eqB (l m : List Sp) : Bool := decide (l = m)

end Go.Proofs.YtkkmoplijicmpaeDoor.C

namespace Go.Proofs.YtkkmoplijicmpaeDoor.C
open Go.RowKit

/-- A value that holds a list of spans. -/
structure Ls (w : World) (v : Value) (l : List Sp) : Prop where
  shape : ∃ a c, v = .slice a l.length c ∧ Spa w a l ∧ l.length ≤ c ∧ c ≤ 9223372036854775807
  small : l.length ≤ 9223372036854775807
theorem Ls.below {w w' : World} {v : Value} {l : List Sp} (h : Ls w v l) (hb : Below w.heap.size w w') : Ls w' v l := by
  obtain ⟨a, c, hv, hs, h1, h2⟩ := h.shape
  exact ⟨⟨a, c, hv, hs.below hb, h1, h2⟩, h.small⟩
theorem SOwn.ls {w : World} {base : Nat} {v : Value} {l : List Sp} (h : SOwn w base v l) (hm : l.length ≤ 9223372036854775807) : Ls w v l := by
  obtain ⟨a, c, rfl⟩ := h.shape
  refine ⟨⟨a, c, rfl, h.spa, ?_⟩, hm⟩
  rcases h.2 with ⟨hv, hn⟩ | ⟨g, cap, cur, hv, _, _, h1, h2, _⟩
  · simp only [Value.slice.injEq] at hv; obtain ⟨_, _, rfl⟩ := hv; omega
  · simp only [Value.slice.injEq] at hv; obtain ⟨_, _, rfl⟩ := hv; unfold maxLen at h2; omega
theorem Ls.nil (w : World) : Ls w (.slice none 0 0) [] := ⟨⟨none, 0, rfl, .inl rfl, by simp, by omega⟩, by simp⟩
theorem SOwn.nil (w : World) (base : Nat) : SOwn w base (.slice none 0 0) [] := World.ownsRow_nil _ _ _ _

theorem right_ls {v : Value} {l : List Sp} {w : World} (h : Ls w v l) : Calls Tryd.prog 76 #[v] w fun e w' => e = .returned (.bool (setB l)) ∧ Below w.heap.size w w' := by
  obtain ⟨a, c, rfl, hs, _, _⟩ := h.shape; exact right_any a c l w hs h.small
/-- What Union answers. -/
def UR (l m u : List Sp) (er : Int) : Prop := (¬ (IsSet l ∧ IsSet m) ∧ er = 30 ∧ u = []) ∨ (IsSet l ∧ IsSet m ∧ ∃ U, Uni l m U ∧ ((U.length ≤ 2000 ∧ er = 0 ∧ u = U) ∨ (2000 < U.length ∧ er = 3 ∧ u = [])))
theorem UR.len {l m u : List Sp} {er : Int} (h : UR l m u er) : u.length ≤ 2000 := by
  rcases h with ⟨_, _, rfl⟩ | ⟨_, _, U, _, ⟨h, _, rfl⟩ | ⟨_, _, rfl⟩⟩
  · simp
  · exact h
  · simp
theorem UR.ok {l m u : List Sp} {er : Int} (h : UR l m u er) (he : er = 0) : IsSet l ∧ IsSet m ∧ Uni l m u ∧ IsSet u := by
  rcases h with ⟨_, h, _⟩ | ⟨h1, h2, U, h3, ⟨h4, _, rfl⟩ | ⟨_, h, _⟩⟩
  · omega
  · exact ⟨h1, h2, h3, h4, h3.rt⟩
  · omega

def UnionPost (l m : List Sp) (w : World) (e : Ending) (w' : World) : Prop := ∃ v u er, e = .returned (.tuple #[v, .int .i64 er]) ∧ SOwn w' w.heap.size v u ∧ UR l m u er ∧ Below w.heap.size w w'

/-- What Add answers. -/
def AR (l : List Sp) (s : Sp) (u : List Sp) (n er : Int) : Prop := UR l [s] u er ∧ ((er = 0 ∧ n = siz u - siz l) ∨ (er ≠ 0 ∧ n = 0))
def AddPost (l : List Sp) (s : Sp) (w : World) (e : Ending) (w' : World) : Prop := ∃ v u n er, e = .returned (.tuple #[v, .int .i64 n, .int .i64 er]) ∧ SOwn w' w.heap.size v u ∧ AR l s u n er ∧ Below w.heap.size w w'

end Go.Proofs.YtkkmoplijicmpaeDoor.C

namespace Go.Proofs.YtkkmoplijicmpaeDoor.C
open Go.RowKit

/-- Where the next span may begin. -/
def lsx (l : List Sp) (k : Nat) : Int := match k with
  | 0 => 0
  | k + 1 => (l.getD k (0, 0)).2 + 1

end Go.Proofs.YtkkmoplijicmpaeDoor.C
