import Derived.Test.YtillgoegiplmkaaGreatDoorChecked
import Derived.Test.YtillgoegiplmkaaGreatDoorClmMath
import Derived.WalkKit
import Derived.WalkSpells
import Derived.WalkMore
import Derived.Deep.LoopGhost
import Derived.WalkLawsBesides
import Derived.Laws.Rows
import Derived.Deep.QuietTactic
import Derived.BigQuiet
import Derived.WalkSmall
namespace Go.Proofs.YtillgoegiplmkaaGreatDoor.C
open Go.RowKit

/-! ## Memory -/

/-- Spans lie at a slice's head. -/
structure CIn (w : World) (v : Value) (cl : List Sp) : Prop where
  shape : ∃ a c, v = .slice a cl.length c ∧ (cl = [] ∨ ∃ g off, a = some ⟨g, off, none⟩ ∧ ∀ (i : Nat) (p : Sp), cl[i]? = some p → w.cell? ⟨g, off + i * 2, none⟩ = some (.int .i64 p.1) ∧ w.cell? ⟨g, off + i * 2 + 1, none⟩ = some (.int .i64 p.2))
  small : cl.length ≤ 1048576

/-- What the walks take of it. -/
def Spa (w : World) (a : Option Addr) (cl : List Sp) : Prop := cl = [] ∨ ∃ g off, a = some ⟨g, off, none⟩ ∧ ∀ (i : Nat) (p : Sp), cl[i]? = some p → w.cell? ⟨g, off + i * 2, none⟩ = some (.int .i64 p.1) ∧ w.cell? ⟨g, off + i * 2 + 1, none⟩ = some (.int .i64 p.2)

theorem cell_below {w w' : World} {g o : Nat} {u : Value} (h : w.cell? ⟨g, o, none⟩ = some u) (hb : Below w.heap.size w w') : w'.cell? ⟨g, o, none⟩ = some u :=
  (hb.cell (p := ⟨g, o, none⟩) (World.block_lt_of_cell? w ⟨g, o, none⟩ h)).trans h
theorem Spa.below {w w' : World} {a : Option Addr} {cl : List Sp} (h : Spa w a cl) (hb : Below w.heap.size w w') : Spa w' a cl := by
  rcases h with h | ⟨g, off, ha, h⟩
  · exact .inl h
  · exact .inr ⟨g, off, ha, fun i p hp => ⟨cell_below (h i p hp).1 hb, cell_below (h i p hp).2 hb⟩⟩
theorem Spa.at {w : World} {a : Option Addr} {cl : List Sp} (h : Spa w a cl) {k : Nat} {p : Sp} (hk : cl[k]? = some p) : ∃ g off, a = some ⟨g, off, none⟩ ∧ w.cell? ⟨g, off + k * 2, none⟩ = some (.int .i64 p.1) ∧ w.cell? ⟨g, off + k * 2 + 1, none⟩ = some (.int .i64 p.2) := by
  rcases h with rfl | ⟨g, off, ha, h⟩
  · simp at hk
  · exact ⟨g, off, ha, h k p hk⟩
theorem drop_get {α : Type} (l : List α) (k : Nat) (x : α) (h : l[k]? = some x) : l.drop k = x :: l.drop (k + 1) := by
  obtain ⟨hk, hx⟩ := List.getElem?_eq_some_iff.mp h
  rw [List.drop_eq_getElem_cons hk, hx]
theorem get_some {α : Type} (l : List α) (k : Nat) (h : k < l.length) : ∃ x, l[k]? = some x := ⟨l[k], List.getElem?_eq_getElem h⟩

theorem grown_trans {a b c : World} {row : Option Nat} (h : a.grownBy b row) (h' : b.grownBy c row) : a.grownBy c row :=
  ⟨h'.os.trans h.os, h'.tape.trans h.tape, h'.output.trans h.output, Nat.le_trans h.size h'.size, fun k hk hne => (h'.block k (Nat.lt_of_lt_of_le hk h.size) hne).trans (h.block k hk hne)⟩
theorem heap_alloc_new' (w : World) (o : Obj) : (w.alloc o).heap[w.heap.size]? = some o := by
  have : (w.alloc o).heap = w.heap.push o := rfl
  rw [this]; simp
theorem box0 (w : World) (x y : Value) (t : TypeId) : (w.alloc (.cells #[x, y] t)).cell? ⟨w.heap.size, 0, none⟩ = some x := by simp
theorem box1 (w : World) (x y : Value) (t : TypeId) : (w.alloc (.cells #[x, y] t)).cell? ⟨w.heap.size, 1, none⟩ = some y := by simp

/-! ## Is it a set? -/
def askB (s : Sp) : Bool := decide (0 ≤ s.1) && (decide (s.1 ≤ s.2) && decide (s.2 ≤ 4611686018427387903))
def mayB (s : Sp) : Bool := askB s && decide (s.1 < s.2)
theorem askB_iff {s : Sp} : askB s = true ↔ Asked s := by simp [askB, Asked]
def rtB : Int → List Sp → Bool
  | _, [] => true
  | lo, s :: r => mayB s && (decide (lo ≤ s.1) && rtB (s.2 + 1) r)
theorem rtB_iff : ∀ {l : List Sp} {lo : Int}, 0 ≤ lo → (rtB lo l = true ↔ Rt lo l)
  | [], _, _ => by simp [rtB, Rt]
  | s :: r, lo, h => by
    simp only [rtB, Rt, mayB, askB, Bool.and_eq_true, decide_eq_true_eq]
    constructor
    · rintro ⟨⟨⟨a, b, c⟩, d⟩, e, f⟩
      exact ⟨e, d, c, (rtB_iff (by omega)).mp f⟩
    · rintro ⟨a, b, c, d⟩
      exact ⟨⟨⟨by omega, by omega, c⟩, b⟩, a, (rtB_iff (by omega)).mpr d⟩
def setB (l : List Sp) : Bool := decide (l.length ≤ 2000) && rtB 0 l
theorem setB_iff {l : List Sp} : setB l = true ↔ IsSet l := by
  simp only [setB, IsSet, Bool.and_eq_true, decide_eq_true_eq, rtB_iff (Int.le_refl 0)]

theorem asked_any (f t : Int) (w : World) : Calls Tryz.prog 161 #[.agg #[.int .i64 f, .int .i64 t]] w fun e w' => e = .returned (.bool (askB (f, t))) ∧ Below w.heap.size w w' := by
  have hb : Below w.heap.size w (w.alloc (.cells #[.int .i64 f, .int .i64 t] 90)) := (Below.refl _ _).alloc (Nat.le_refl _) _
  have HB : Hid (Below w.heap.size w (w.alloc (.cells #[.int .i64 f, .int .i64 t] 90))) := hb
  clear hb
  go_enter Tryz.func161, Tryz.ntmps161
  by_cases h1 : 0 ≤ f
  · by_cases h2 : f ≤ t
    · by_cases h3 : t ≤ 4611686018427387903
      · go_wp2
        go_ret
        exact ⟨by simp [askB, h1, h2, h3], HB.out⟩
      · go_wp2
        go_ret
        exact ⟨by simp [askB, h3], HB.out⟩
    · go_wp2
      go_ret
      exact ⟨by simp [askB]; omega, HB.out⟩
  · go_wp2
    go_ret
    exact ⟨by simp [askB]; omega, HB.out⟩

theorem may_any (f t : Int) (w : World) : Calls Tryz.prog 180 #[.agg #[.int .i64 f, .int .i64 t]] w fun e w' => e = .returned (.bool (mayB (f, t))) ∧ Below w.heap.size w w' := by
  have hb : Below w.heap.size w (w.alloc (.cells #[.int .i64 f, .int .i64 t] 90)) := (Below.refl _ _).alloc (Nat.le_refl _) _
  have HB : Hid (Below w.heap.size w (w.alloc (.cells #[.int .i64 f, .int .i64 t] 90))) := hb
  clear hb
  have HA := asked_any f t (w.alloc (.cells #[.int .i64 f, .int .i64 t] 90))
  unfold mayB
  generalize askB (f, t) = q at HA ⊢
  go_enter Tryz.func180, Tryz.ntmps180
  go_wp2_with fail
  refine HA.mono ?_
  rintro e w2 ⟨rfl, hb2⟩
  clear HA
  have c0 : w2.cell? ⟨w.heap.size, 0, none⟩ = some (.int .i64 f) := (hb2.cell (p := ⟨w.heap.size, 0, none⟩) (by simp)).trans (box0 _ _ _ _)
  have c1 : w2.cell? ⟨w.heap.size, 1, none⟩ = some (.int .i64 t) := (hb2.cell (p := ⟨w.heap.size, 1, none⟩) (by simp)).trans (box1 _ _ _ _)
  have HB2 : Hid (Below w.heap.size w w2) := HB.out.trans (hb2.mono (by simp))
  clear hb2 HB
  cases q with
  | false =>
    go_wp2
    go_ret
    exact ⟨by simp, HB2.out⟩
  | true =>
    by_cases h : f < t
    · go_wp2
      go_ret
      exact ⟨by simp [h], HB2.out⟩
    · go_wp2
      go_ret
      exact ⟨by simp, HB2.out⟩

end Go.Proofs.YtillgoegiplmkaaGreatDoor.C

namespace Go.Proofs.YtillgoegiplmkaaGreatDoor.C
open Go.RowKit

set_option maxHeartbeats 1000000 in
theorem right_any (a : Option Addr) (c : Nat) (l : List Sp) (w : World) (h : Spa w a l) (hm : l.length ≤ 9223372036854775807) : Calls Tryz.prog 160 #[.slice a l.length c] w fun e w' => e = .returned (.bool (setB l)) ∧ Below w.heap.size w w' := by
  have HS : Hid (Spa w a l) := h
  clear h
  go_enter Tryz.func160, Tryz.ntmps160
  by_cases h2 : 2000 < l.length
  · have h2' : (2000 : Int) < (l.length : Int) := by omega
    have HV : Hid (setB l = false) := by unfold Hid setB; rw [decide_eq_false (by omega)]; rfl
    generalize setB l = V at *
    go_wp2
    go_ret
    exact ⟨by rw [HV.out]; rfl, Below.refl _ _⟩
  · have h2' : ¬ (2000 : Int) < (l.length : Int) := by omega
    have HE : Hid (rtB 0 l = setB l) := by unfold Hid setB; rw [decide_eq_true (by omega)]; rfl
    generalize setB l = V at *
    go_wp2_with fail
    go_loopw [3, 11] (fun q i wr => ∃ (k : Nat) (least : Int), k ≤ l.length ∧ i = .int .i64 k ∧ q = .int .i64 least ∧ 0 ≤ least ∧ Below w.heap.size w wr ∧ rtB least (l.drop k) = V) (fun _ i _ => l.length - (intOf i).toNat)
    case atStart => exact ⟨0, 0, by omega, rfl, rfl, by omega, Below.refl _ _, HE.out⟩
    case round =>
      obtain ⟨k, least, hk, rfl, rfl, hl0, hbe, hrt⟩ := hrel
      have HBe : Hid (Below w.heap.size w wr) := hbe
      have HR : Hid (rtB least (l.drop k) = V) := hrt
      clear hbe hrt HE
      by_cases hlt : k < l.length
      · have hlt' : (k : Int) < (l.length : Int) := by omega
        obtain ⟨p, hp⟩ := get_some l k hlt
        obtain ⟨g, off, rfl, q1, q2⟩ := (HS.out.below HBe.out).at hp
        rw [drop_get l k p hp] at HR
        obtain ⟨p1, p2⟩ := p
        simp only at q1 q2
        have HR2 : Hid ((mayB (p1, p2) && (decide (least ≤ p1) && rtB (p2 + 1) (l.drop (k + 1)))) = V) := HR.out
        have hA := may_any p1 p2 (wr.alloc (.cells #[.int .i64 p1, .int .i64 p2] 90))
        have HM : Hid (mayB (p1, p2) = true → 0 ≤ p1 ∧ p1 < p2 ∧ p2 ≤ 4611686018427387903) := by
          intro h; simp [mayB, askB] at h; omega
        clear hp HR
        generalize mayB (p1, p2) = m at *
        go_wp2_with fail
        refine hA.mono ?_
        rintro e w2 ⟨rfl, hb2⟩
        clear hA
        have c0 : w2.cell? ⟨wr.heap.size, 0, none⟩ = some (.int .i64 p1) := (hb2.cell (p := ⟨wr.heap.size, 0, none⟩) (by simp)).trans (box0 _ _ _ _)
        have c1 : w2.cell? ⟨wr.heap.size, 1, none⟩ = some (.int .i64 p2) := (hb2.cell (p := ⟨wr.heap.size, 1, none⟩) (by simp)).trans (box1 _ _ _ _)
        have HB2 : Hid (Below w.heap.size w w2) := (HBe.out.alloc HBe.out.size _).trans (hb2.mono (by have := HBe.out.size; simp; omega))
        clear hb2 HBe q1 q2
        cases m with
        | false =>
          have HV : Hid (V = false) := HR2.out.symm
          go_wp2
          go_ret
          exact ⟨by rw [HV.out]; rfl, HB2.out⟩
        | true =>
          obtain ⟨m1, m2, m3⟩ := HM.out rfl
          by_cases e1 : p1 < least
          · have HV : Hid (V = false) := by have := HR2.out; rw [decide_eq_false (by omega)] at this; exact this.symm
            go_wp2
            go_ret
            exact ⟨by rw [HV.out]; rfl, HB2.out⟩
          · have HR3 : Hid (rtB (p2 + 1) (l.drop (k + 1)) = V) := by have := HR2.out; rw [decide_eq_true (by omega)] at this; exact this
            clear HR2 HM
            go_wp2
            go_roundw
            case rel => exact ⟨k + 1, p2 + 1, by omega, by go_num, by go_num, by omega, HB2.out, HR3.out⟩
            case measure => simp [intOf]; omega
      · have hkn : k = l.length := by omega
        have HV : Hid (V = true) := by have := HR.out; rw [hkn, List.drop_length] at this; exact this.symm
        clear HR
        subst hkn
        go_wp2
        go_ret
        exact ⟨by rw [HV.out]; rfl, HBe.out⟩

end Go.Proofs.YtillgoegiplmkaaGreatDoor.C

namespace Go.Proofs.YtillgoegiplmkaaGreatDoor.C
open Go.RowKit

/-- How many bytes a set has. -/
def szB (l : List Sp) : Int := if setB l then siz l else 0

theorem siz_take {l : List Sp} {k : Nat} {p : Sp} (h : l[k]? = some p) : siz (l.take (k + 1)) = siz (l.take k) + (p.2 - p.1) := by
  rw [List.take_add_one, h, siz_append]; simp [siz]
theorem siz_bound {l : List Sp} (h : IsSet l) (k : Nat) : 0 ≤ siz (l.take k) ∧ siz (l.take k) ≤ 4611686018427387904 := by
  have hr : Rt 0 (l.take k) := Rt.cut (l := l.drop k) (by rw [List.take_append_drop]; exact h.2)
  have := siz_pos hr
  have := siz_most hr (by omega)
  omega

set_option maxHeartbeats 1000000 in
theorem size_any (a : Option Addr) (c : Nat) (l : List Sp) (w : World) (h : Spa w a l) (hm : l.length ≤ 9223372036854775807) : Calls Tryz.prog 159 #[.slice a l.length c] w fun e w' => e = .returned (.int .i64 (szB l)) ∧ Below w.heap.size w w' := by
  have HS : Hid (Spa w a l) := h
  have hR := right_any a c l w h hm
  unfold szB
  have HI : Hid (setB l = true → IsSet l) := setB_iff.mp
  clear h
  generalize setB l = V at *
  go_enter Tryz.func159, Tryz.ntmps159
  go_wp2_with fail
  refine hR.mono ?_
  rintro e w1 ⟨rfl, hb1⟩
  clear hR
  have HB1 : Hid (Below w.heap.size w w1) := hb1
  clear hb1
  cases V with
  | false =>
    go_wp2
    go_ret
    exact ⟨rfl, HB1.out⟩
  | true =>
    have HQ : Hid (IsSet l) := HI.out rfl
    have hl2 : l.length ≤ 2000 := HQ.out.1
    clear HI
    go_wp2_with fail
    go_loopw [3, 11] (fun q i wr => ∃ (k : Nat), k ≤ l.length ∧ i = .int .i64 k ∧ q = .int .i64 (siz (l.take k)) ∧ Below w.heap.size w wr) (fun _ i _ => l.length - (intOf i).toNat)
    case atStart => exact ⟨0, by omega, rfl, rfl, HB1.out⟩
    case round =>
      obtain ⟨k, hk, rfl, rfl, hbe⟩ := hrel
      have HBe : Hid (Below w.heap.size w wr) := hbe
      clear hbe
      by_cases hlt : k < l.length
      · have hlt' : (k : Int) < (l.length : Int) := by omega
        obtain ⟨p, hp⟩ := get_some l k hlt
        obtain ⟨g, off, rfl, q1, q2⟩ := (HS.out.below HBe.out).at hp
        have HT := siz_take hp
        have b1 := siz_bound HQ.out k
        have b2 := siz_bound HQ.out (k + 1)
        have hpm := HQ.out.2.mem p (List.mem_of_getElem? hp)
        obtain ⟨p1, p2⟩ := p
        simp only at q1 q2 HT hpm
        have HT2 : Hid (siz (l.take (k + 1)) = siz (l.take k) + (p2 - p1)) := HT
        rw [HT] at b2
        have HB2 : Hid (Below w.heap.size w (wr.alloc (.cells #[.int .i64 p1, .int .i64 p2] 90))) := HBe.out.alloc HBe.out.size _
        clear HT hp HBe
        generalize siz (l.take k) = n at *
        go_wp2
        go_roundw
        case rel => exact ⟨k + 1, by omega, by go_num, by rw [HT2.out], HB2.out⟩
        case measure => simp [intOf]; omega
      · have hkn : k = l.length := by omega
        subst hkn
        go_wp2
        go_ret
        exact ⟨rfl, HBe.out⟩

theorem bounded_any (v : Option Addr) (n c : Nat) (w : World) (hn : n ≤ 1048576) : Calls Tryz.prog 163 #[.slice v n c] w fun e w' => e = .returned (if n ≤ 2000 then .tuple #[.slice v n c, .int .i64 0] else .tuple #[.slice none 0 0, .int .i64 3]) ∧ w = w' := by
  go_enter Tryz.func163, Tryz.ntmps163
  by_cases h : n ≤ 2000
  · have h' : (n : Int) ≤ 2000 := by omega
    rw [if_pos h]
    go_wp2
    go_ret2
    exact ⟨rfl, rfl⟩
  · have h' : ¬ (n : Int) ≤ 2000 := by omega
    rw [if_neg h]
    go_wp2
    go_ret2
    exact ⟨rfl, rfl⟩

end Go.Proofs.YtillgoegiplmkaaGreatDoor.C
