import Derived.Test.YthbkabehjeidjaeDoorBkWlk
import Derived.Test.YthbkabehjeidjaeDoorRfg
namespace Go.Proofs.YthbkabehjeidjaeDoor.C
open Go.RowKit Go.Shelf

/-- The pieces hang on what lies within alone. -/
theorem pc_wth {hi : Int} : ∀ {l : List Sp} {p : Int}, pc hi p (pick true (pc hi p l)) = pc hi p l
  | [], p => by
    simp only [pc]
    split
    · simp [pick, pc, *]
    · simp [pick, pc, *]
  | x :: r, p => by
    by_cases h : min x.2 hi ≤ max x.1 p
    · rw [pc_skip h]; exact pc_wth
    · by_cases hp : p < x.1
      · rw [pc_gap h hp]
        have e : pick true (((p, x.1), false) :: ((x.1, min x.2 hi), true) :: pc hi (min x.2 hi) r) = (x.1, min x.2 hi) :: pick true (pc hi (min x.2 hi) r) := by simp [pick]
        rw [e, pc_gap (x := (x.1, min x.2 hi)) (by simp only; omega) hp]
        simp only
        rw [show min (min x.2 hi) hi = min x.2 hi by omega, pc_wth]
      · rw [pc_on h (by omega)]
        have e : pick true (((p, min x.2 hi), true) :: pc hi (min x.2 hi) r) = (p, min x.2 hi) :: pick true (pc hi (min x.2 hi) r) := by simp [pick]
        rw [e, pc_on (x := (p, min x.2 hi)) (by simp only; omega) (by simp only; omega)]
        simp only
        rw [show min (min x.2 hi) hi = min x.2 hi by omega, pc_wth]

/-- What there is to walk over. -/
def wks (l : List Sp) (f t : Int) (L : List Pz) : Prop := (IsSet l ∧ Asked (f, t) → L = pc t f l) ∧ (¬ (IsSet l ∧ Asked (f, t)) → L = [])
theorem wks.uniq {l : List Sp} {f t : Int} {L M : List Pz} (h : wks l f t L) (h' : wks l f t M) : L = M := by
  by_cases hq : IsSet l ∧ Asked (f, t)
  · rw [h.1 hq, h'.1 hq]
  · rw [h.2 hq, h'.2 hq]
theorem wks.len {l : List Sp} {f t : Int} {L : List Pz} (h : wks l f t L) : L.length ≤ 4001 := by
  by_cases hq : IsSet l ∧ Asked (f, t)
  · rw [h.1 hq]
    have : (pc t f l).length ≤ 2 * l.length + 1 := len_pc
    have := hq.1.1
    omega
  · rw [h.2 hq]; simp

set_option maxHeartbeats 4000000 in
theorem refpieces_no {a : Option Addr} {c : Nat} {l : List Sp} {w : World} (f t : Int) (h : Ls w (.slice a l.length c) l) (hq : ¬ (IsSet l ∧ Asked (f, t))) : Calls Tryd.prog 83 #[.slice a l.length c, .agg #[.int .i64 f, .int .i64 t]] w (PcPost w []) := by
  have HN : Hid (¬ (IsSet l ∧ Asked (f, t))) := hq
  have hb0 := below_box w f t
  have d0 := box0 w (.int .i64 f) (.int .i64 t) 36
  have d1 := box1 w (.int .i64 f) (.int .i64 t) 36
  have hR := refright_ls (h.below hb0)
  have HI : Hid (setB l = true → IsSet l) := setB_iff.mp
  have HJ : Hid (askB (f, t) = true → Asked (f, t)) := askB_iff.mp
  have hA : Hid (∀ W, Calls Tryd.prog 96 #[.agg #[.int .i64 f, .int .i64 t]] W fun e w' => e = .returned (.bool (askB (f, t))) ∧ Below W.heap.size W w') := fun W => refasked_any f t W
  have HB0 : Hid (Below w.heap.size w (w.alloc (.cells #[.int .i64 f, .int .i64 t] 36))) := hb0
  clear h hq hb0
  generalize setB l = V at *
  generalize askB (f, t) = V' at *
  go_enter Tryd.func83, Tryd.ntmps83
  go_wp2_with fail
  refine hR.mono ?_
  rintro e w1 ⟨rfl, hb1⟩
  have k0 := cell_below d0 hb1
  have k1 := cell_below d1 hb1
  have HB1 : Hid (Below w.heap.size w w1) := HB0.out.trans (hb1.mono HB0.out.size)
  clear hR hb1 d0 d1 HB0
  go_wp2_with fail
  refine (hA.out w1).mono ?_
  rintro e w2 ⟨rfl, hb2⟩
  have HB2 : Hid (Below w.heap.size w w2) := HB1.out.trans (hb2.mono HB1.out.size)
  clear hA hb2 HB1 k0 k1
  cases V with
  | false =>
    clear HI HJ
    go_wp2
    go_ret
    exact ⟨_, rfl, World.ownsRow_nil _ _ _ _, HB2.out⟩
  | true =>
    cases V' with
    | true => exact absurd ⟨HI.out rfl, HJ.out rfl⟩ HN.out
    | false =>
      clear HI HJ
      go_wp2
      go_ret
      exact ⟨_, rfl, World.ownsRow_nil _ _ _ _, HB2.out⟩

theorem refpieces_all {a : Option Addr} {c : Nat} {l : List Sp} {w : World} (f t : Int) (h : Ls w (.slice a l.length c) l) : Calls Tryd.prog 83 #[.slice a l.length c, .agg #[.int .i64 f, .int .i64 t]] w fun e w' => ∃ v L, e = .returned v ∧ POwn w' w.heap.size v L ∧ Below w.heap.size w w' ∧ wks l f t L := by
  by_cases hq : IsSet l ∧ Asked (f, t)
  · refine (refpieces_in a c l w f t h hq.1 hq.2).mono ?_
    rintro e w' ⟨v, rfl, hp, hb⟩
    exact ⟨v, _, rfl, hp, hb, fun _ => rfl, fun h => absurd hq h⟩
  · refine (refpieces_no f t h hq).mono ?_
    rintro e w' ⟨v, rfl, hp, hb⟩
    exact ⟨v, _, rfl, hp, hb, fun h => absurd h hq, fun _ => rfl⟩

/-- What Walk answers of whatever is asked. -/
def WalkAll (l : List Sp) (f t : Int) (w : World) (e : Ending) (w' : World) : Prop := ∃ Bs Bl a c xs s1 s2, e = .returned (.func (.func 145) #[] #[.pointer (some ⟨Bs, 0, none⟩), .pointer (some ⟨Bl, 0, none⟩)]) ∧
  w'.heap[Bs]? = some (.cells #[.int .i64 s1, .int .i64 s2] 36 (0, 0)) ∧ w'.heap[Bl]? = some (.cells #[.slice a xs.length c] 26 (0, 0)) ∧ SOwn w' w.heap.size (.slice a xs.length c) xs ∧ w.heap.size ≤ Bs ∧ w.heap.size ≤ Bl ∧ Bs ≠ Bl ∧ Below w.heap.size w w' ∧ xs.length ≤ 2000 ∧ wks l f t (pc s2 s1 xs)

set_option maxHeartbeats 2000000 in
theorem walk_all {v : Value} {l : List Sp} {w : World} (f t : Int) (h : Ls w v l) : Calls Tryd.prog 84 #[v, .agg #[.int .i64 f, .int .i64 t]] w (WalkAll l f t w) := by
  by_cases hq : IsSet l ∧ Asked (f, t)
  · refine (walk_any f t h hq.1 hq.2).mono ?_
    rintro e w' ⟨Bs, Bl, a, c, rfl, h1, h2, h3, h4, h5, h6, h7⟩
    refine ⟨Bs, Bl, a, c, _, f, t, rfl, h1, h2, h3, h4, h5, h6, h7, ?_, fun _ => pc_wth, fun hn => absurd hq hn⟩
    have : (wth l (f, t)).length ≤ l.length := len_true
    have := hq.1.1
    omega
  · have hwi := within_any f t (h.below (below_box w f t))
    have HW : Hid (∀ u er, GR true l (f, t) u er → er = 30 ∧ u = []) := fun u er hg => by
      rcases hg with ⟨_, h1, h2⟩ | ⟨h1, h2, _⟩
      · exact ⟨h1, h2⟩
      · exact absurd ⟨h1, h2⟩ hq
    have HN : Hid (¬ (IsSet l ∧ Asked (f, t))) := hq
    clear hq h
    go_enter Tryd.func84, Tryd.ntmps84
    go_wp2_with fail
    refine hwi.mono ?_
    rintro e w2 ⟨v2, u, er, rfl, hown, hgr, hb2⟩
    obtain ⟨rfl, rfl⟩ := HW.out _ _ hgr
    obtain ⟨a, c, rfl⟩ := hown.shape
    have HB2 : Hid (Below w.heap.size w w2) := (below_box w f t).trans (hb2.mono (by simp))
    clear hwi HW hgr hown hb2
    have hp := pieces_any none 0 0 0 0 w2
    go_wp2_with fail
    refine hp.mono ?_
    rintro e w3 ⟨rfl, rfl⟩
    clear hp
    have hs := HB2.out.size
    go_wp2
    go_ret
    refine ⟨_, _, none, 0, [], 0, 0, rfl, ?_, ?_, SOwn.nil _ _, by omega, hs, by omega, (HB2.out.alloc hs _).alloc (by simp; omega) _, by simp, fun h => absurd h HN.out, fun _ => by simp [pc]⟩
    · have := heap_alloc_new' (w2.alloc (.cells #[.slice none 0 0] 26)) (.cells #[.int .i64 0, .int .i64 0] 36)
      rw [World.size_alloc] at this; exact this
    · exact (Below.heap_alloc _ _ _ (by simp)).trans (heap_alloc_new' w2 _)

end Go.Proofs.YthbkabehjeidjaeDoor.C
