import Derived.Test.YtdfdaambfihjaaaDoorSmp
import Derived.Test.YtdfdaambfihjaaaDoorMay
import Derived.WalkSmall
namespace Go.Proofs.YtdfdaambfihjaaaDoor
open Go.RowKit

theorem Lies.drewN {k : IntKind} {w : World} {a : Option Addr} {zs : List Int} (h : Lies k w a zs) (nd : Nat) : Lies k (w.drewN nd) a zs := by
  rcases h with h | ⟨b, off, ha, h⟩
  · exact .inl h
  · exact .inr ⟨b, off, ha, fun i hi => h i hi⟩
theorem below_drewN' {B : Nat} {w wr : World} (h : Below B w wr) (n : Nat) : Below B w (wr.drewN n) := ⟨h.os, h.tape, h.output, h.size, h.block⟩

/-- What a comparison answers: true where the two say the same. -/
def SmPost (p : Prop) (w : World) (e : Ending) (w' : World) : Prop := ∃ q : Bool, e = .returned (.bool q) ∧ (p → q = true) ∧ Below w.heap.size w w'

theorem drop_step {α : Type} {l m : List α} (k : Nat) {p q : α} (hp : l[k]? = some p) (hq : m[k]? = some q) : (l.drop k = m.drop k) ↔ (p = q ∧ l.drop (k + 1) = m.drop (k + 1)) := by
  rw [drop_get l k p hp, drop_get m k q hq]; simp
theorem get_one {α : Type} (l : List α) (k : Nat) (h : k < l.length) : ∃ x, l[k]? = some x := ⟨l[k], List.getElem?_eq_getElem h⟩

theorem CIn.at {w : World} {a : Option Addr} {c n : Nat} {cl : List (Int × Int)} (h : CIn w (.slice a n c) cl) {k : Nat} {p : Int × Int} (hk : cl[k]? = some p) : ∃ g off, a = some ⟨g, off, none⟩ ∧ w.cell? ⟨g, off + k * 2, none⟩ = some (.int .i64 p.1) ∧ w.cell? ⟨g, off + k * 2 + 1, none⟩ = some (.int .i64 p.2) := by
  obtain ⟨a', c', hv, hs⟩ := h.shape
  simp only [Value.slice.injEq] at hv
  obtain ⟨rfl, rfl, rfl⟩ := hv
  rcases hs with rfl | ⟨g, off, ha, h⟩
  · simp at hk
  · exact ⟨g, off, ha, h k p hk⟩
theorem XIn.at {w : World} {a : Option Addr} {c n : Nat} {xs : List Xr} (h : XIn w (.slice a n c) xs) {k : Nat} {x : Xr} (hk : xs[k]? = some x) : ∃ g off, a = some ⟨g, off, none⟩ ∧ w.cell? ⟨g, off + k * 2, none⟩ = some (.int .i64 x.tag) ∧ w.cell? ⟨g, off + k * 2 + 1, none⟩ = some x.val := by
  obtain ⟨a', c', hv, hs⟩ := h.shape
  simp only [Value.slice.injEq] at hv
  obtain ⟨rfl, rfl, rfl⟩ := hv
  rcases hs with rfl | ⟨g, off, ha, h⟩
  · simp at hk
  · exact ⟨g, off, ha, h k x hk⟩

set_option maxHeartbeats 1000000 in
theorem sameSpans_gen (va vb : Value) (l m : List (Int × Int)) (w : World) (h : CIn w va l) (h' : CIn w vb m) :
    Calls Tryd.prog 54 #[va, vb] w (SmPost (l = m) w) := by
  obtain ⟨a, c, rfl, _⟩ := h.shape
  obtain ⟨b, d, rfl, _⟩ := h'.shape
  have hsm := h.small
  have HS : Hid (CIn w (.slice a l.length c) l) := h
  have HS' : Hid (CIn w (.slice b m.length d) m) := h'
  clear h h'
  go_enter Tryd.func54, Tryd.ntmps54
  by_cases hl : l.length = m.length
  · have HL : Hid (l.length = m.length) := hl
    have hl' : (l.length : Int) = (m.length : Int) := by omega
    rw [← hl] at hl' ⊢
    clear hl
    go_wp2_with fail
    go_loopw [5] (fun i wr => ∃ (k : Nat), k ≤ l.length ∧ i = .int .i64 k ∧ Below w.heap.size w wr ∧ ((l = m) → l.drop k = m.drop k)) (fun i _ => l.length - (intOf i).toNat)
    case atStart => exact ⟨0, by omega, rfl, Below.refl _ _, fun h => by rw [h]⟩
    case round =>
      obtain ⟨k, hk, rfl, hbe, hrt⟩ := hrel
      have HBe : Hid (Below w.heap.size w wr) := hbe
      have HR : Hid ((l = m) → l.drop k = m.drop k) := hrt
      clear hbe hrt
      by_cases hlt : k < l.length
      · have hlt' : (k : Int) < (l.length : Int) := by omega
        obtain ⟨p, hp⟩ := get_one l k hlt
        obtain ⟨q, hq⟩ := get_one m k (by have := HL.out; omega)
        obtain ⟨g, off, rfl, q1, q2⟩ := (HS.out.below HBe.out).at hp
        obtain ⟨g', off', rfl, r1, r2⟩ := (HS'.out.below HBe.out).at hq
        have HQ : Hid ((l = m) → p = q ∧ l.drop (k + 1) = m.drop (k + 1)) := fun h => (drop_step k hp hq).mp (HR.out h)
        clear HR hp hq
        obtain ⟨p1, p2⟩ := p
        obtain ⟨u1, u2⟩ := q
        simp only at q1 q2 r1 r2
        by_cases e : p1 = u1 ∧ p2 = u2
        · obtain ⟨rfl, rfl⟩ := e
          have HR3 : Hid ((l = m) → l.drop (k + 1) = m.drop (k + 1)) := fun h => (HQ.out h).2
          clear HQ
          go_wp2_with fail
          go_quiet (fail)
          go_wp2
          go_roundw
          case rel => exact ⟨k + 1, by omega, by go_num, below_drewN' HBe.out _, HR3.out⟩
          case measure => simp [intOf]; omega
        · have HV : Hid (¬ l = m) := fun h => by have := (HQ.out h).1; simp only [Prod.mk.injEq] at this; exact e this
          clear HQ
          by_cases e1 : p1 = u1
          · subst e1
            have e2 : ¬ p2 = u2 := fun h => e ⟨rfl, h⟩
            go_wp2_with fail
            go_quiet (fail)
            go_wp2
            go_ret
            exact ⟨_, rfl, fun h => absurd h HV.out, below_drewN' HBe.out _⟩
          · go_wp2_with fail
            go_quiet (fail)
            go_wp2
            go_ret
            exact ⟨_, rfl, fun h => absurd h HV.out, below_drewN' HBe.out _⟩
      · have hkn : k = l.length := by omega
        clear HR
        subst hkn
        go_wp2
        go_ret
        exact ⟨true, rfl, fun _ => rfl, HBe.out⟩
  · have hl' : ¬ (l.length : Int) = (m.length : Int) := by omega
    have HV : Hid (¬ l = m) := fun h => hl (by rw [h])
    go_wp2
    go_ret
    exact ⟨_, rfl, fun h => absurd h HV.out, Below.refl _ _⟩

set_option maxHeartbeats 2000000 in
theorem sameExts_gen (va vb : Value) (l m : List Xr) (w : World) (h : XIn w va l) (h' : XIn w vb m) :
    Calls Tryd.prog 53 #[va, vb] w (SmPost (l.map Xr.ex = m.map Xr.ex) w) := by
  obtain ⟨a, c, rfl, _⟩ := h.shape
  obtain ⟨b, d, rfl, _⟩ := h'.shape
  have hsm := h.small
  have HS : Hid (XIn w (.slice a l.length c) l) := h
  have HS' : Hid (XIn w (.slice b m.length d) m) := h'
  clear h h'
  go_enter Tryd.func53, Tryd.ntmps53
  by_cases hl : l.length = m.length
  · have HL : Hid (l.length = m.length) := hl
    have hl' : (l.length : Int) = (m.length : Int) := by omega
    rw [← hl] at hl' ⊢
    clear hl
    go_wp2_with fail
    go_loopw [5] (fun i wr => ∃ (k : Nat), k ≤ l.length ∧ i = .int .i64 k ∧ Below w.heap.size w wr) (fun i _ => l.length - (intOf i).toNat)
    case atStart => exact ⟨0, by omega, rfl, Below.refl _ _⟩
    case round =>
      obtain ⟨k, hk, rfl, hbe⟩ := hrel
      have HBe : Hid (Below w.heap.size w wr) := hbe
      clear hbe
      by_cases hlt : k < l.length
      · have hlt' : (k : Int) < (l.length : Int) := by omega
        obtain ⟨x, hp⟩ := get_one l k hlt
        obtain ⟨y, hq⟩ := get_one m k (by have := HL.out; omega)
        have hA := HS.out.below HBe.out
        have hB := HS'.out.below HBe.out
        obtain ⟨g, off, rfl, q1, q2⟩ := hA.at hp
        obtain ⟨g', off', rfl, r1, r2⟩ := hB.at hq
        have HQ : Hid ((l.map Xr.ex = m.map Xr.ex) → x.tag = y.tag ∧ x.data = y.data) := fun h => by
          have := congrArg (fun z => z[k]?) h
          simp only [List.getElem?_map, hp, hq, Option.map_some, Option.some.injEq, Xr.ex, Ex.mk.injEq] at this
          exact this
        obtain ⟨xa, xc, hxv, hxl, _⟩ := (hA.data x (List.mem_of_getElem? hp)).shape
        obtain ⟨ya, yc, hyv, hyl, _⟩ := (hB.data y (List.mem_of_getElem? hq)).shape
        rw [hxv] at q2
        rw [hyv] at r2
        have k1 : ∀ nd, (convert 34 9 (.slice xa x.data.length xc)).run Tryd.prog (wr.drewN nd) = .ok (.string (strOfNums x.data)) (wr.drewN nd) := fun nd => conv_any _ _ _ _ _ rfl (hxl.drewN nd)
        have k2 : ∀ nd, (convert 34 9 (.slice ya y.data.length yc)).run Tryd.prog (wr.drewN nd) = .ok (.string (strOfNums y.data)) (wr.drewN nd) := fun nd => conv_any _ _ _ _ _ rfl (hyl.drewN nd)
        have HD : Hid (x.data = y.data → strOfNums x.data = strOfNums y.data) := fun h => by rw [h]
        clear hp hq hA hB hxl hyl hxv hyv
        generalize strOfNums x.data = S1 at *
        generalize strOfNums y.data = S2 at *
        generalize x.tag = t1 at *
        generalize y.tag = t2 at *
        by_cases e1 : t1 = t2
        · subst e1
          have e0 : (t1 != t1) = false := by simp
          by_cases e2 : S1.toList = S2.toList
          · have e3 : (S1.toList == S2.toList) = true := by simp [e2]
            go_wp2_with fail
            go_quiet (fail)
            go_wp2
            go_roundw
            case rel => exact ⟨k + 1, by omega, by go_num, below_drewN' HBe.out _⟩
            case measure => simp [intOf]; omega
          · have HV : Hid (¬ l.map Xr.ex = m.map Xr.ex) := fun h => e2 (by rw [HD.out (HQ.out h).2])
            have e3 : (S1.toList == S2.toList) = false := by simp [e2]
            clear HQ HD
            go_wp2_with fail
            go_quiet (fail)
            go_wp2
            go_ret
            exact ⟨_, rfl, fun h => absurd h HV.out, below_drewN' HBe.out _⟩
        · have HV : Hid (¬ l.map Xr.ex = m.map Xr.ex) := fun h => e1 (HQ.out h).1
          have e3 : (t1 != t2) = true := by simp [e1]
          have e4 : (t1 == t2) = false := by simp [e1]
          clear HQ HD
          go_wp2_with fail
          go_quiet (fail)
          go_wp2
          go_ret
          exact ⟨_, rfl, fun h => absurd h HV.out, below_drewN' HBe.out _⟩
      · have hkn : k = l.length := by omega
        subst hkn
        go_wp2
        go_ret
        exact ⟨true, rfl, fun _ => rfl, HBe.out⟩
  · have hl' : ¬ (l.length : Int) = (m.length : Int) := by omega
    have HV : Hid (¬ l.map Xr.ex = m.map Xr.ex) := fun h => hl (by have := congrArg List.length h; simpa using this)
    go_wp2
    go_ret
    exact ⟨_, rfl, fun h => absurd h HV.out, Below.refl _ _⟩

end Go.Proofs.YtdfdaambfihjaaaDoor
