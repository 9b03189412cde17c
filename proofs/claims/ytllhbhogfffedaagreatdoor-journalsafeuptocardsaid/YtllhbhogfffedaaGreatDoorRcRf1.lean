import Derived.Test.YtllhbhogfffedaaGreatDoorRcFrm
import Derived.Test.YtllhbhogfffedaaGreatDoorSpn
import Derived.WalkSmall
namespace Go.Proofs.YtllhbhogfffedaaGreatDoor
open Go.RowKit

/-- A kind's letters. -/
def fsB (k : Int) : List UInt8 :=
  if k = 1 then [79, 90] else if k = 2 then [90] else if k = 3 then [79, 78, 80, 86, 82, 90, 68] else if k = 4 then [79, 78, 72] else if k = 8 then [79, 78, 72]
  else if k = 5 then [79, 78] else if k = 7 then [79, 78] else if k = 9 then [79, 78] else if k = 10 then [79, 78] else if k = 6 then [79, 78, 86, 70, 82, 90, 68]
  else if k = 11 then [90, 83] else if k = 12 then [79, 78, 86, 82, 90] else []
abbrev fsV (k : Int) : Value := .string ⟨(fsB k).toArray⟩

set_option maxRecDepth 100000 in
set_option maxHeartbeats 2000000 in
theorem fields2_any (k : Int) (w : World) :
    Calls Tryz.prog 86 #[.int .i64 k] w fun e w' => e = .returned (fsV k) ∧ w = w' := by
  by_cases h1 : k = 1
  · subst h1
    go_enter Tryz.func86, Tryz.ntmps86
    go_wp2
    go_ret
    exact ⟨rfl, rfl⟩
  by_cases h2 : k = 2
  · subst h2
    go_enter Tryz.func86, Tryz.ntmps86
    go_wp2
    go_ret
    exact ⟨rfl, rfl⟩
  by_cases h3 : k = 3
  · subst h3
    go_enter Tryz.func86, Tryz.ntmps86
    go_wp2
    go_ret
    exact ⟨rfl, rfl⟩
  by_cases h4 : k = 4
  · subst h4
    go_enter Tryz.func86, Tryz.ntmps86
    go_wp2
    go_ret
    exact ⟨rfl, rfl⟩
  by_cases h8 : k = 8
  · subst h8
    go_enter Tryz.func86, Tryz.ntmps86
    go_wp2
    go_ret
    exact ⟨rfl, rfl⟩
  by_cases h5 : k = 5
  · subst h5
    go_enter Tryz.func86, Tryz.ntmps86
    go_wp2
    go_ret
    exact ⟨rfl, rfl⟩
  by_cases h7 : k = 7
  · subst h7
    go_enter Tryz.func86, Tryz.ntmps86
    go_wp2
    go_ret
    exact ⟨rfl, rfl⟩
  by_cases h9 : k = 9
  · subst h9
    go_enter Tryz.func86, Tryz.ntmps86
    go_wp2
    go_ret
    exact ⟨rfl, rfl⟩
  by_cases h10 : k = 10
  · subst h10
    go_enter Tryz.func86, Tryz.ntmps86
    go_wp2
    go_ret
    exact ⟨rfl, rfl⟩
  by_cases h6 : k = 6
  · subst h6
    go_enter Tryz.func86, Tryz.ntmps86
    go_wp2
    go_ret
    exact ⟨rfl, rfl⟩
  by_cases h11 : k = 11
  · subst h11
    go_enter Tryz.func86, Tryz.ntmps86
    go_wp2
    go_ret
    exact ⟨rfl, rfl⟩
  by_cases h12 : k = 12
  · subst h12
    go_enter Tryz.func86, Tryz.ntmps86
    go_wp2
    go_ret
    exact ⟨rfl, rfl⟩
  have HE : Hid (fsB k = []) := by unfold Hid fsB; rw [if_neg h1, if_neg h2, if_neg h3, if_neg h4, if_neg h8, if_neg h5, if_neg h7, if_neg h9, if_neg h10, if_neg h6, if_neg h11, if_neg h12]
  go_enter Tryz.func86, Tryz.ntmps86
  go_wp2
  go_ret
  exact ⟨congrArg Ending.returned (show Value.string ⟨#[]⟩ = Value.string ⟨(fsB k).toArray⟩ by rw [HE.out]), rfl⟩

/-- Is a letter in a word? -/
def hasS (l : List UInt8) (c : UInt8) : Bool := l.contains c
theorem hasS_cons (x : UInt8) (l : List UInt8) (c : UInt8) : hasS (x :: l) c = (c == x || hasS l c) := by unfold hasS; rw [List.contains_cons]
set_option maxHeartbeats 1000000 in
theorem has2_any (l : List UInt8) (c : UInt8) (hl : l.length ≤ 10) (w : World) :
    Calls Tryz.prog 109 #[.string ⟨l.toArray⟩, .int .u8 c.toNat] w fun e w' => e = .returned (.bool (hasS l c)) ∧ w = w' := by
  go_enter Tryz.func109, Tryz.ntmps109
  go_wp2_with fail
  go_loop [5] (fun i => ∃ k : Nat, k ≤ l.length ∧ i = .int .i64 k ∧ hasS l c = hasS (l.drop k) c) (fun i => l.length - (intOf i).toNat)
  case atStart => exact ⟨0, Nat.zero_le _, rfl, rfl⟩
  case round =>
    obtain ⟨k, hk, rfl, hh⟩ := hrel
    have HH : Hid (hasS l c = hasS (l.drop k) c) := hh
    clear hh
    by_cases hlt : k < l.length
    · have hlt' : (k : Int) < (l.length : Int) := by omega
      have HD : Hid (l.drop k = l[k] :: l.drop (k + 1)) := List.drop_eq_getElem_cons hlt
      go_wp2
      · rename_i h _
        have hx : l[k] = c := by
          have h2 : (l[k].toNat : Int) = (c.toNat : Int) := beq_iff_eq.mp h
          exact UInt8.toNat_inj.mp (by omega)
        go_ret
        exact ⟨congrArg (fun b => Ending.returned (Value.bool b)) (by rw [HH.out, HD.out, hasS_cons, hx]; simp), rfl⟩
      · rename_i h
        have hx : ¬ c = l[k] := by
          intro e
          have h2 : ¬ (l[k].toNat : Int) = (c.toNat : Int) := beq_eq_false_iff_ne.mp h
          exact h2 (by rw [e])
        go_round
        case rel => exact ⟨k + 1, by omega, by go_num, by rw [HH.out, HD.out, hasS_cons, beq_false_of_ne hx]; rfl⟩
        case measure => simp [intOf]; omega
    · have he : l.drop k = [] := List.drop_eq_nil_of_le (by omega)
      have HE : Hid (hasS l c = false) := by unfold Hid; rw [HH.out, he]; rfl
      go_wp2
      go_ret
      exact ⟨congrArg (fun b => Ending.returned (Value.bool b)) HE.out.symm, rfl⟩

abbrev ltL : List UInt8 := [79, 78, 80, 86, 70, 82, 90, 72]
set_option maxRecDepth 100000 in
set_option maxHeartbeats 1000000 in
theorem get2_any (r : Rc) (sv dv : Value) (i : Nat) (hi : i < 8) (w : World) :
    Calls Tryz.prog 88 #[.agg (rcC r sv dv), .int .u8 (ltL.getD i 0).toNat] w fun e w' => e = .returned (.int .i64 (nmA r i)) ∧ w' = w.alloc (rcO r sv dv) := by
  have : i = 0 ∨ i = 1 ∨ i = 2 ∨ i = 3 ∨ i = 4 ∨ i = 5 ∨ i = 6 ∨ i = 7 := by omega
  rcases this with rfl | rfl | rfl | rfl | rfl | rfl | rfl | rfl
  all_goals
    go_enter Tryz.func88, Tryz.ntmps88
    go_wp2
    go_ret
    exact ⟨rfl, rfl⟩
end Go.Proofs.YtllhbhogfffedaaGreatDoor

namespace Go.Proofs.YtllhbhogfffedaaGreatDoor.C
open Go.RowKit

theorem refmay_any (f t : Int) (w : World) : Calls Tryz.prog 125 #[.agg #[.int .i64 f, .int .i64 t]] w fun e w' => e = .returned (.bool (mayB (f, t))) ∧ Below w.heap.size w w' := by
  have hb : Below w.heap.size w (w.alloc (.cells #[.int .i64 f, .int .i64 t] 128)) := (Below.refl _ _).alloc (Nat.le_refl _) _
  have HB : Hid (Below w.heap.size w (w.alloc (.cells #[.int .i64 f, .int .i64 t] 128))) := hb
  clear hb
  go_enter Tryz.func125, Tryz.ntmps125
  by_cases h1 : 0 ≤ f
  · by_cases h2 : f < t
    · have h2' : f ≤ t := by omega
      by_cases h3 : t ≤ 4611686018427387903
      · go_wp2
        go_ret
        exact ⟨by simp [mayB, askB, h1, h2, h2', h3], HB.out⟩
      · go_wp2
        go_ret
        exact ⟨by simp [mayB, askB]; omega, HB.out⟩
    · go_wp2
      go_ret
      exact ⟨by simp [mayB, askB]; omega, HB.out⟩
  · go_wp2
    go_ret
    exact ⟨by simp [mayB, askB]; omega, HB.out⟩

/-- Where the next span may begin. -/
def lst (l : List Sp) (k : Nat) : Int := match k with
  | 0 => 0
  | k + 1 => (l.getD k (0, 0)).2 + 1

set_option maxHeartbeats 1000000 in
theorem refright_any (a : Option Addr) (c : Nat) (l : List Sp) (w : World) (h : Spa w a l) (hm : l.length ≤ 9223372036854775807) : Calls Tryz.prog 115 #[.slice a l.length c] w fun e w' => e = .returned (.bool (setB l)) ∧ Below w.heap.size w w' := by
  have HS : Hid (Spa w a l) := h
  clear h
  go_enter Tryz.func115, Tryz.ntmps115
  by_cases h2 : 2000 < l.length
  · have h2' : (2000 : Int) < (l.length : Int) := by omega
    have HV : Hid (setB l = false) := by unfold Hid setB; rw [decide_eq_false (by omega)]; rfl
    generalize setB l = V at *
    go_wp2
    go_ret
    exact ⟨by rw [HV.out]; rfl, Below.refl _ _⟩
  · have h2' : ¬ (2000 : Int) < (l.length : Int) := by omega
    have HE : Hid (rtB 0 l = setB l) := by unfold Hid setB; rw [decide_eq_true (by omega)]; rfl
    generalize setB l = V at *
    go_wp2_with fail
    go_loopw [3] (fun i wr => ∃ (k : Nat), k ≤ l.length ∧ i = .int .i64 k ∧ Below w.heap.size w wr ∧ rtB (lst l k) (l.drop k) = V) (fun i _ => l.length - (intOf i).toNat)
    case atStart => exact ⟨0, by omega, rfl, Below.refl _ _, HE.out⟩
    case round =>
      obtain ⟨k, hk, rfl, hbe, hrt⟩ := hrel
      have HBe : Hid (Below w.heap.size w wr) := hbe
      have HR : Hid (rtB (lst l k) (l.drop k) = V) := hrt
      clear hbe hrt HE
      by_cases hlt : k < l.length
      · have hlt' : (k : Int) < (l.length : Int) := by omega
        obtain ⟨p, hp⟩ := get_some l k hlt
        obtain ⟨g, off, rfl, q1, q2⟩ := (HS.out.below HBe.out).at hp
        rw [drop_get l k p hp] at HR
        obtain ⟨p1, p2⟩ := p
        simp only at q1 q2
        have HR2 : Hid ((mayB (p1, p2) && (decide (lst l k ≤ p1) && rtB (p2 + 1) (l.drop (k + 1)))) = V) := HR.out
        have hA := refmay_any p1 p2 wr
        have HM : Hid (mayB (p1, p2) = true → 0 ≤ p1 ∧ p1 < p2 ∧ p2 ≤ 4611686018427387903) := by
          intro h; simp [mayB, askB] at h; omega
        have HL : Hid (lst l (k + 1) = p2 + 1) := by unfold Hid lst; simp only; rw [List.getD_eq_getElem?_getD, hp]; rfl
        clear HR
        generalize mayB (p1, p2) = m at *
        go_wp2_with fail
        refine hA.mono ?_
        rintro e w2 ⟨rfl, hb2⟩
        clear hA q1 q2
        have HB2 : Hid (Below w.heap.size w w2) := HBe.out.trans (hb2.mono HBe.out.size)
        clear hb2 HBe
        cases m with
        | false =>
          have HV : Hid (V = false) := HR2.out.symm
          clear HR2 HM HL hp
          go_wp2_with fail
          go_quiet (fail)
          go_wp2
          go_ret
          exact ⟨by rw [HV.out]; rfl, below_drewN HB2.out _⟩
        | true =>
          obtain ⟨m1, m2, m3⟩ := HM.out rfl
          clear HM
          by_cases hk0 : k = 0
          · subst hk0
            have HR3 : Hid (rtB (lst l (0 + 1)) (l.drop (0 + 1)) = V) := by
              have := HR2.out; rw [decide_eq_true (show lst l 0 ≤ p1 from m1)] at this; rw [Hid, HL.out]; exact this
            clear HR2 HL hp
            go_wp2_with fail
            go_quiet (fail)
            go_wp2
            go_roundw
            case rel => exact ⟨0 + 1, by omega, by go_num, below_drewN HB2.out _, HR3.out⟩
            case measure => simp [intOf]; omega
          · obtain ⟨j, rfl⟩ : ∃ j, k = j + 1 := ⟨k - 1, by omega⟩
            obtain ⟨u, hu⟩ := get_some l j (by omega)
            obtain ⟨g', off', he, r1, r2⟩ := (HS.out.below HB2.out).at hu
            obtain ⟨g2, off2, he2, t1, t2⟩ := (HS.out.below HB2.out).at hp
            simp only [Option.some.injEq, Addr.mk.injEq, and_true] at he he2
            obtain ⟨rfl, rfl⟩ := he
            obtain ⟨rfl, rfl⟩ := he2
            obtain ⟨u1, u2⟩ := u
            have HLs : Hid (lst l (j + 1) = u2 + 1) := by unfold Hid lst; simp only; rw [List.getD_eq_getElem?_getD, hu]; rfl
            rw [HLs.out] at HR2
            simp only at r1 r2 t1 t2
            have hj : (0 : Int) < ((j + 1 : Nat) : Int) := by omega
            clear hu hp HLs
            by_cases e1 : p1 ≤ u2
            · have HV : Hid (V = false) := by have := HR2.out; rw [decide_eq_false (by omega)] at this; exact this.symm
              clear HR2 HL
              have hd : decide (p1 ≤ u2) = true := decide_eq_true e1
              go_wp2_with fail
              go_quiet (fail)
              go_wp2
              go_ret
              exact ⟨by rw [HV.out]; rfl, below_drewN HB2.out _⟩
            · have HR3 : Hid (rtB (lst l (j + 1 + 1)) (l.drop (j + 1 + 1)) = V) := by
                have := HR2.out; rw [decide_eq_true (show u2 + 1 ≤ p1 by omega)] at this; rw [Hid, HL.out]; exact this
              clear HR2 HL
              have hd : decide (p1 ≤ u2) = false := decide_eq_false e1
              go_wp2_with fail
              go_quiet (fail)
              go_wp2
              go_roundw
              case rel => exact ⟨j + 1 + 1, by omega, by go_num, below_drewN HB2.out _, HR3.out⟩
              case measure => simp [intOf]; omega
      · have hkn : k = l.length := by omega
        have HV : Hid (V = true) := by have := HR.out; rw [hkn, List.drop_length] at this; exact this.symm
        clear HR
        subst hkn
        go_wp2
        go_ret
        exact ⟨by rw [HV.out]; rfl, HBe.out⟩

end Go.Proofs.YtllhbhogfffedaaGreatDoor.C

namespace Go.Proofs.YtllhbhogfffedaaGreatDoor
open Go.RowKit
set_option linter.unusedVariables false
set_option linter.unusedSimpArgs false
theorem lenB_yes {n low : Int} (h : n = 0 ∨ (low ≤ n ∧ n ≤ 65536)) : lenB n low = true := by
  unfold lenB
  rcases h with h | h
  · subst h; rfl
  · rw [decide_eq_true h.1, decide_eq_true h.2, Bool.and_true, Bool.or_true]
theorem lenB_no {n low : Int} (h : ¬ n = 0 ∧ ¬ (low ≤ n ∧ n ≤ 65536)) : lenB n low = false := by
  unfold lenB
  rw [beq_false_of_ne h.1, Bool.false_or]
  by_cases h1 : low ≤ n
  · rw [decide_eq_true h1, decide_eq_false (fun h2 => h.2 ⟨h1, h2⟩)]; rfl
  · rw [decide_eq_false h1]; rfl
set_option maxRecDepth 100000 in
set_option maxHeartbeats 4000000 in
theorem fit_k1 (r : Rc) (sa da : Option Addr) (ns nd sc dc : Nat) (w : World) (hns : r.spans.length = ns) (hnd : r.data.length = nd) (hm : nd ≤ 140737488355328) (hs : C.Ls w (.slice sa ns sc) r.spans) (hb : ∀ i < 8, 0 ≤ nmA r i ∧ nmA r i ≤ 4611686018427387903) (hk : r.kind = 1) :
    Calls Tryz.prog 110 #[.agg (rcC r (.slice sa ns sc) (.slice da nd dc))] w fun e w' => e = .returned (.bool (suitB r)) ∧ Below w.heap.size w w' := by
  have HB : Hid (Below w.heap.size w (w.alloc (rcO r (.slice sa ns sc) (.slice da nd dc)))) := (Below.refl _ _).alloc (Nat.le_refl _) _
  have HS : Hid (suitB r = (decide (1 ≤ r.size) && decide (r.size ≤ 1073741824))) := by unfold Hid suitB; rw [hk, if_pos rfl]
  generalize suitB r = S at *
  clear hb
  obtain ⟨kind, org, num, peer, srv, off, red, size, how, spans, data⟩ := r
  simp only at HS hk
  subst hk
  clear hns hnd hs
  rw [HS.out]
  clear HS
  by_cases p0 : 1 ≤ size
  · have p0' : decide (1 ≤ size) = true := decide_eq_true p0
    have hv : (decide (1 ≤ size) && decide (size ≤ 1073741824)) = decide (size ≤ 1073741824) := by simp only [p0', Bool.true_and, Bool.false_and, Bool.and_false, Bool.and_true]
    rw [hv]
    clear hv
    go_enter Tryz.func110, Tryz.ntmps110
    go_wp2
    go_ret
    exact ⟨rfl, HB.out⟩
  · have p0' : decide (1 ≤ size) = false := decide_eq_false p0
    have hv : (decide (1 ≤ size) && decide (size ≤ 1073741824)) = false := by simp only [p0', Bool.true_and, Bool.false_and, Bool.and_false, Bool.and_true]
    rw [hv]
    clear hv
    go_enter Tryz.func110, Tryz.ntmps110
    go_wp2
    go_ret
    exact ⟨rfl, HB.out⟩
set_option maxRecDepth 100000 in
set_option maxHeartbeats 4000000 in
theorem fit_k2 (r : Rc) (sa da : Option Addr) (ns nd sc dc : Nat) (w : World) (hns : r.spans.length = ns) (hnd : r.data.length = nd) (hm : nd ≤ 140737488355328) (hs : C.Ls w (.slice sa ns sc) r.spans) (hb : ∀ i < 8, 0 ≤ nmA r i ∧ nmA r i ≤ 4611686018427387903) (hk : r.kind = 2) :
    Calls Tryz.prog 110 #[.agg (rcC r (.slice sa ns sc) (.slice da nd dc))] w fun e w' => e = .returned (.bool (suitB r)) ∧ Below w.heap.size w w' := by
  have HB : Hid (Below w.heap.size w (w.alloc (rcO r (.slice sa ns sc) (.slice da nd dc)))) := (Below.refl _ _).alloc (Nat.le_refl _) _
  have HS : Hid (suitB r = (decide (1 ≤ r.size))) := by unfold Hid suitB; rw [hk, if_neg (by decide), if_pos rfl]
  generalize suitB r = S at *
  clear hb
  obtain ⟨kind, org, num, peer, srv, off, red, size, how, spans, data⟩ := r
  simp only at HS hk
  subst hk
  clear hns hnd hs
  rw [HS.out]
  clear HS
  go_enter Tryz.func110, Tryz.ntmps110
  go_wp2
  go_ret
  exact ⟨rfl, HB.out⟩
set_option maxRecDepth 100000 in
set_option maxHeartbeats 4000000 in
theorem fit_k3 (r : Rc) (sa da : Option Addr) (ns nd sc dc : Nat) (w : World) (hns : r.spans.length = ns) (hnd : r.data.length = nd) (hm : nd ≤ 140737488355328) (hs : C.Ls w (.slice sa ns sc) r.spans) (hb : ∀ i < 8, 0 ≤ nmA r i ∧ nmA r i ≤ 4611686018427387903) (hk : r.kind = 3) :
    Calls Tryz.prog 110 #[.agg (rcC r (.slice sa ns sc) (.slice da nd dc))] w fun e w' => e = .returned (.bool (suitB r)) ∧ Below w.heap.size w w' := by
  have HB : Hid (Below w.heap.size w (w.alloc (rcO r (.slice sa ns sc) (.slice da nd dc)))) := (Below.refl _ _).alloc (Nat.le_refl _) _
  have HS : Hid (suitB r = (decide (1 ≤ r.peer) && ((decide (1 ≤ r.red) && decide (r.red ≤ r.size)) && (decide (r.size ≤ 65536) && ((nd : Int) == r.red))))) := by unfold Hid suitB; rw [hk, if_neg (by decide), if_neg (by decide), if_pos rfl]; rw [hnd]
  generalize suitB r = S at *
  clear hb
  obtain ⟨kind, org, num, peer, srv, off, red, size, how, spans, data⟩ := r
  simp only at HS hk
  subst hk
  clear hns hnd hs
  rw [HS.out]
  clear HS
  by_cases p0 : 1 ≤ peer
  · have p0' : decide (1 ≤ peer) = true := decide_eq_true p0
    by_cases p1 : 1 ≤ red
    · have p1' : decide (1 ≤ red) = true := decide_eq_true p1
      by_cases p2 : red ≤ size
      · have p2' : decide (red ≤ size) = true := decide_eq_true p2
        by_cases p3 : size ≤ 65536
        · have p3' : decide (size ≤ 65536) = true := decide_eq_true p3
          have hv : (decide (1 ≤ peer) && ((decide (1 ≤ red) && decide (red ≤ size)) && (decide (size ≤ 65536) && ((nd : Int) == red)))) = ((nd : Int) == red) := by simp only [p0', p1', p2', p3', Bool.true_and, Bool.false_and, Bool.and_false, Bool.and_true]
          rw [hv]
          clear hv
          go_enter Tryz.func110, Tryz.ntmps110
          go_wp2
          go_ret
          exact ⟨rfl, HB.out⟩
        · have p3' : decide (size ≤ 65536) = false := decide_eq_false p3
          have hv : (decide (1 ≤ peer) && ((decide (1 ≤ red) && decide (red ≤ size)) && (decide (size ≤ 65536) && ((nd : Int) == red)))) = false := by simp only [p0', p1', p2', p3', Bool.true_and, Bool.false_and, Bool.and_false, Bool.and_true]
          rw [hv]
          clear hv
          go_enter Tryz.func110, Tryz.ntmps110
          go_wp2
          go_ret
          exact ⟨rfl, HB.out⟩
      · have p2' : decide (red ≤ size) = false := decide_eq_false p2
        have hv : (decide (1 ≤ peer) && ((decide (1 ≤ red) && decide (red ≤ size)) && (decide (size ≤ 65536) && ((nd : Int) == red)))) = false := by simp only [p0', p1', p2', Bool.true_and, Bool.false_and, Bool.and_false, Bool.and_true]
        rw [hv]
        clear hv
        go_enter Tryz.func110, Tryz.ntmps110
        go_wp2
        go_ret
        exact ⟨rfl, HB.out⟩
    · have p1' : decide (1 ≤ red) = false := decide_eq_false p1
      have hv : (decide (1 ≤ peer) && ((decide (1 ≤ red) && decide (red ≤ size)) && (decide (size ≤ 65536) && ((nd : Int) == red)))) = false := by simp only [p0', p1', Bool.true_and, Bool.false_and, Bool.and_false, Bool.and_true]
      rw [hv]
      clear hv
      go_enter Tryz.func110, Tryz.ntmps110
      go_wp2
      go_ret
      exact ⟨rfl, HB.out⟩
  · have p0' : decide (1 ≤ peer) = false := decide_eq_false p0
    have hv : (decide (1 ≤ peer) && ((decide (1 ≤ red) && decide (red ≤ size)) && (decide (size ≤ 65536) && ((nd : Int) == red)))) = false := by simp only [p0', Bool.true_and, Bool.false_and, Bool.and_false, Bool.and_true]
    rw [hv]
    clear hv
    go_enter Tryz.func110, Tryz.ntmps110
    go_wp2
    go_ret
    exact ⟨rfl, HB.out⟩
set_option maxRecDepth 100000 in
set_option maxHeartbeats 4000000 in
theorem fit_k4 (r : Rc) (sa da : Option Addr) (ns nd sc dc : Nat) (w : World) (hns : r.spans.length = ns) (hnd : r.data.length = nd) (hm : nd ≤ 140737488355328) (hs : C.Ls w (.slice sa ns sc) r.spans) (hb : ∀ i < 8, 0 ≤ nmA r i ∧ nmA r i ≤ 4611686018427387903) (hk : r.kind = 4) :
    Calls Tryz.prog 110 #[.agg (rcC r (.slice sa ns sc) (.slice da nd dc))] w fun e w' => e = .returned (.bool (suitB r)) ∧ Below w.heap.size w w' := by
  have HB : Hid (Below w.heap.size w (w.alloc (rcO r (.slice sa ns sc) (.slice da nd dc)))) := (Below.refl _ _).alloc (Nat.le_refl _) _
  have HS : Hid (suitB r = (decide (r.how ≤ 6))) := by unfold Hid suitB; rw [hk, if_neg (by decide), if_neg (by decide), if_neg (by decide), if_pos rfl]
  generalize suitB r = S at *
  clear hb
  obtain ⟨kind, org, num, peer, srv, off, red, size, how, spans, data⟩ := r
  simp only at HS hk
  subst hk
  clear hns hnd hs
  rw [HS.out]
  clear HS
  go_enter Tryz.func110, Tryz.ntmps110
  go_wp2
  go_ret
  exact ⟨rfl, HB.out⟩
set_option maxRecDepth 100000 in
set_option maxHeartbeats 4000000 in
theorem fit_k8 (r : Rc) (sa da : Option Addr) (ns nd sc dc : Nat) (w : World) (hns : r.spans.length = ns) (hnd : r.data.length = nd) (hm : nd ≤ 140737488355328) (hs : C.Ls w (.slice sa ns sc) r.spans) (hb : ∀ i < 8, 0 ≤ nmA r i ∧ nmA r i ≤ 4611686018427387903) (hk : r.kind = 8) :
    Calls Tryz.prog 110 #[.agg (rcC r (.slice sa ns sc) (.slice da nd dc))] w fun e w' => e = .returned (.bool (suitB r)) ∧ Below w.heap.size w w' := by
  have HB : Hid (Below w.heap.size w (w.alloc (rcO r (.slice sa ns sc) (.slice da nd dc)))) := (Below.refl _ _).alloc (Nat.le_refl _) _
  have HS : Hid (suitB r = (decide (r.how ≤ 5))) := by unfold Hid suitB; rw [hk, if_neg (by decide), if_neg (by decide), if_neg (by decide), if_neg (by decide), if_neg (by decide), if_pos rfl]
  generalize suitB r = S at *
  clear hb
  obtain ⟨kind, org, num, peer, srv, off, red, size, how, spans, data⟩ := r
  simp only at HS hk
  subst hk
  clear hns hnd hs
  rw [HS.out]
  clear HS
  go_enter Tryz.func110, Tryz.ntmps110
  go_wp2
  go_ret
  exact ⟨rfl, HB.out⟩
set_option maxRecDepth 100000 in
set_option maxHeartbeats 8000000 in
theorem fit_k12 (r : Rc) (sa da : Option Addr) (ns nd sc dc : Nat) (w : World) (hns : r.spans.length = ns) (hnd : r.data.length = nd) (hm : nd ≤ 140737488355328) (hs : C.Ls w (.slice sa ns sc) r.spans) (hb : ∀ i < 8, 0 ≤ nmA r i ∧ nmA r i ≤ 4611686018427387903) (hk : r.kind = 12) :
    Calls Tryz.prog 110 #[.agg (rcC r (.slice sa ns sc) (.slice da nd dc))] w fun e w' => e = .returned (.bool (suitB r)) ∧ Below w.heap.size w w' := by
  have HB : Hid (Below w.heap.size w (w.alloc (rcO r (.slice sa ns sc) (.slice da nd dc)))) := (Below.refl _ _).alloc (Nat.le_refl _) _
  have HS : Hid (suitB r = ((decide (1 ≤ r.red) && decide (r.red ≤ 65536)) && lenB r.size r.red)) := by unfold Hid suitB; rw [hk, if_neg (by decide), if_neg (by decide), if_neg (by decide), if_neg (by decide), if_neg (by decide), if_neg (by decide), if_neg (by decide), if_pos rfl]
  have hoff := hb 4 (by omega)
  rw [show nmA r 4 = r.off from rfl] at hoff
  clear hb
  generalize suitB r = S at *
  obtain ⟨kind, org, num, peer, srv, off, red, size, how, spans, data⟩ := r
  simp only at HS hk hoff
  subst hk
  clear hns hnd hs
  rw [HS.out]
  clear HS
  by_cases p0 : 1 ≤ red
  · have p0' : decide (1 ≤ red) = true := decide_eq_true p0
    by_cases p1 : red ≤ 65536
    · have p1' : decide (red ≤ 65536) = true := decide_eq_true p1
      by_cases z0 : size = 0
      · have hz : (size == 0) = true := beq_iff_eq.mpr z0
        have hl : lenB size red = true := lenB_yes (by omega)
        clear z0
        have hv : ((decide (1 ≤ red) && decide (red ≤ 65536)) && lenB size red) = true := by simp only [p0', p1', hl, Bool.true_and, Bool.false_and, Bool.and_false, Bool.and_true]
        rw [hv]
        clear hv
        go_enter Tryz.func110, Tryz.ntmps110
        go_wp2
        go_ret
        exact ⟨rfl, HB.out⟩
      · have hz : (size == 0) = false := beq_false_of_ne z0
        by_cases z1 : red ≤ size
        · by_cases z2 : size ≤ 65536
          · have hl : lenB size red = true := lenB_yes (by omega)
            have hv : ((decide (1 ≤ red) && decide (red ≤ 65536)) && lenB size red) = true := by simp only [p0', p1', hl, Bool.true_and, Bool.false_and, Bool.and_false, Bool.and_true]
            rw [hv]
            clear hv
            go_enter Tryz.func110, Tryz.ntmps110
            go_wp2
            go_ret
            exact ⟨rfl, HB.out⟩
          · have hl : lenB size red = false := lenB_no (by omega)
            have hv : ((decide (1 ≤ red) && decide (red ≤ 65536)) && lenB size red) = false := by simp only [p0', p1', hl, Bool.true_and, Bool.false_and, Bool.and_false, Bool.and_true]
            rw [hv]
            clear hv
            go_enter Tryz.func110, Tryz.ntmps110
            go_wp2
            go_ret
            exact ⟨rfl, HB.out⟩
        · have hl : lenB size red = false := lenB_no (by omega)
          have hv : ((decide (1 ≤ red) && decide (red ≤ 65536)) && lenB size red) = false := by simp only [p0', p1', hl, Bool.true_and, Bool.false_and, Bool.and_false, Bool.and_true]
          rw [hv]
          clear hv
          go_enter Tryz.func110, Tryz.ntmps110
          go_wp2
          go_ret
          exact ⟨rfl, HB.out⟩
    · have p1' : decide (red ≤ 65536) = false := decide_eq_false p1
      have hv : ((decide (1 ≤ red) && decide (red ≤ 65536)) && lenB size red) = false := by simp only [p0', p1', Bool.true_and, Bool.false_and, Bool.and_false, Bool.and_true]
      rw [hv]
      clear hv
      go_enter Tryz.func110, Tryz.ntmps110
      go_wp2
      go_ret
      exact ⟨rfl, HB.out⟩
  · have p0' : decide (1 ≤ red) = false := decide_eq_false p0
    have hv : ((decide (1 ≤ red) && decide (red ≤ 65536)) && lenB size red) = false := by simp only [p0', Bool.true_and, Bool.false_and, Bool.and_false, Bool.and_true]
    rw [hv]
    clear hv
    go_enter Tryz.func110, Tryz.ntmps110
    go_wp2
    go_ret
    exact ⟨rfl, HB.out⟩
set_option maxRecDepth 100000 in
set_option maxHeartbeats 8000000 in
theorem fit_no (r : Rc) (sa da : Option Addr) (ns nd sc dc : Nat) (w : World) (hns : r.spans.length = ns) (hnd : r.data.length = nd) (hm : nd ≤ 140737488355328) (hs : C.Ls w (.slice sa ns sc) r.spans) (hb : ∀ i < 8, 0 ≤ nmA r i ∧ nmA r i ≤ 4611686018427387903) (hk : r.kind ≠ 1 ∧ r.kind ≠ 2 ∧ r.kind ≠ 3 ∧ r.kind ≠ 4 ∧ r.kind ≠ 6 ∧ r.kind ≠ 8 ∧ r.kind ≠ 11 ∧ r.kind ≠ 12) :
    Calls Tryz.prog 110 #[.agg (rcC r (.slice sa ns sc) (.slice da nd dc))] w fun e w' => e = .returned (.bool (suitB r)) ∧ Below w.heap.size w w' := by
  have HB : Hid (Below w.heap.size w (w.alloc (rcO r (.slice sa ns sc) (.slice da nd dc)))) := (Below.refl _ _).alloc (Nat.le_refl _) _
  obtain ⟨k1, k2, k3, k4, k6, k8, k11, k12⟩ := hk
  have HS : Hid (suitB r = true) := by unfold Hid suitB; rw [if_neg k1, if_neg k2, if_neg k3, if_neg k4, if_neg k6, if_neg k8, if_neg k11, if_neg k12]
  rw [HS.out]
  clear HS hs hb
  go_enter Tryz.func110, Tryz.ntmps110
  go_wp2
  go_ret
  exact ⟨rfl, HB.out⟩
end Go.Proofs.YtllhbhogfffedaaGreatDoor
