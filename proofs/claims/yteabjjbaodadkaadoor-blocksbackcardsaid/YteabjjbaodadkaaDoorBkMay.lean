import Derived.Test.YteabjjbaodadkaaDoorBkRf1
namespace Go.Proofs.YteabjjbaodadkaaDoor
open Go.RowKit

/-- May a session, a parcel and a base be? -/
def mayB (k : Pk) (b : Int) : Bool := sesB k && (pclB k && (decide (0 ≤ b) && decide (b ≤ 4611686018427322367)))

set_option maxHeartbeats 2000000 in
theorem may_any (k : Pk) (b : Int) (w : World) :
    Calls Tryd.prog 9 #[.agg #[.int .i64 k.org, .int .i64 k.num, .int .i64 k.srv, .int .i64 k.size, .int .i64 k.red, .int .i64 k.mtu, .int .i64 k.every, .int .i64 b]] w fun e w' => e = .returned (.bool (mayB k b)) ∧ Below w.heap.size w w' := by
  have HB0 : Hid (Below w.heap.size w (w.alloc (.cells #[.int .i64 k.org, .int .i64 k.num, .int .i64 k.srv, .int .i64 k.size, .int .i64 k.red, .int .i64 k.mtu, .int .i64 k.every, .int .i64 b] 47))) := (Below.refl _ _).alloc (Nat.le_refl _) _
  have HX : Hid ((w.alloc (.cells #[.int .i64 k.org, .int .i64 k.num, .int .i64 k.srv, .int .i64 k.size, .int .i64 k.red, .int .i64 k.mtu, .int .i64 k.every, .int .i64 b] 47)).heap[w.heap.size]? = some (.cells #[.int .i64 k.org, .int .i64 k.num, .int .i64 k.srv, .int .i64 k.size, .int .i64 k.red, .int .i64 k.mtu, .int .i64 k.every, .int .i64 b] 47)) := heap_alloc_new' w _
  have hs := session2_any k
  have hp := parcel2_any k
  unfold mayB
  obtain ⟨q1, h1⟩ : ∃ q, sesB k = q := ⟨_, rfl⟩
  obtain ⟨q2, h2⟩ : ∃ q, pclB k = q := ⟨_, rfl⟩
  rw [h1] at hs ⊢
  rw [h2] at hp ⊢
  clear h1 h2
  go_enter Tryd.func9, Tryd.ntmps9
  go_wp2_with fail
  refine (hs _).mono ?_
  rintro e w1 ⟨rfl, hb1⟩
  have HX1 : Hid (w1.heap[w.heap.size]? = some (.cells #[.int .i64 k.org, .int .i64 k.num, .int .i64 k.srv, .int .i64 k.size, .int .i64 k.red, .int .i64 k.mtu, .int .i64 k.every, .int .i64 b] 47)) := (hb1.block _ (by simp)).trans HX.out
  have HB1 : Hid (Below w.heap.size w w1) := HB0.out.trans (hb1.mono (by simp))
  have c2 := cell_of_row _ w.heap.size 2 _ _ _ HX1.out
  have c3 := cell_of_row _ w.heap.size 3 _ _ _ HX1.out
  have c4 := cell_of_row _ w.heap.size 4 _ _ _ HX1.out
  have c5 := cell_of_row _ w.heap.size 5 _ _ _ HX1.out
  have c6 := cell_of_row _ w.heap.size 6 _ _ _ HX1.out
  simp only [List.getElem?_toArray, List.getElem?_cons_succ, List.getElem?_cons_zero] at c2 c3 c4 c5 c6
  clear hb1 hs HX HB0
  go_wp2_with fail
  refine (hp _).mono ?_
  rintro e w2 ⟨rfl, hb2⟩
  have HX2 : Hid (w2.heap[w.heap.size]? = some (.cells #[.int .i64 k.org, .int .i64 k.num, .int .i64 k.srv, .int .i64 k.size, .int .i64 k.red, .int .i64 k.mtu, .int .i64 k.every, .int .i64 b] 47)) := (hb2.block _ (Array.getElem?_eq_some_iff.mp HX1.out).1).trans HX1.out
  have HB2 : Hid (Below w.heap.size w w2) := HB1.out.trans (hb2.mono HB1.out.size)
  have c7 := cell_of_row _ w.heap.size 7 _ _ _ HX2.out
  simp only [List.getElem?_toArray, List.getElem?_cons_succ, List.getElem?_cons_zero] at c7
  clear hb2 hp HX1 HB1 c2 c3 c4 c5 c6
  cases q1
  · go_wp2
    go_ret
    exact ⟨rfl, HB2.out⟩
  cases q2
  · go_wp2
    go_ret
    exact ⟨rfl, HB2.out⟩
  by_cases h0 : 0 ≤ b
  · by_cases h3 : b ≤ 4611686018427322367
    · go_wp2
      go_ret
      exact ⟨by simp [h0, h3], HB2.out⟩
    · go_wp2
      go_ret
      exact ⟨by simp; omega, HB2.out⟩
  · go_wp2
    go_ret
    exact ⟨by simp; omega, HB2.out⟩

end Go.Proofs.YteabjjbaodadkaaDoor
