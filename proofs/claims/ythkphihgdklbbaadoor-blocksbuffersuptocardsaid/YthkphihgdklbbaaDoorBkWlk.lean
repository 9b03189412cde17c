import Derived.Test.YthkphihgdklbbaaDoorGat
namespace Go.Proofs.YthkphihgdklbbaaDoor.C
open Go.RowKit Go.Shelf

/-- What Walk answers of a set and a span that may be asked: an iterator over what lies within. -/
def WalkPost (l : List Sp) (f t : Int) (w : World) (e : Ending) (w' : World) : Prop := ∃ Bs Bl a c, e = .returned (.func (.func 70) #[] #[.pointer (some ⟨Bs, 0, none⟩), .pointer (some ⟨Bl, 0, none⟩)]) ∧
  w'.heap[Bs]? = some (.cells #[.int .i64 f, .int .i64 t] 38 (0, 0)) ∧ w'.heap[Bl]? = some (.cells #[.slice a (wth l (f, t)).length c] 59 (0, 0)) ∧ SOwn w' w.heap.size (.slice a (wth l (f, t)).length c) (wth l (f, t)) ∧ w.heap.size ≤ Bs ∧ w.heap.size ≤ Bl ∧ Bs ≠ Bl ∧ Below w.heap.size w w'

set_option maxHeartbeats 2000000 in
theorem walk_any {v : Value} {l : List Sp} {w : World} (f t : Int) (h : Ls w v l) (hq : IsSet l) (ha : Asked (f, t)) :
    Calls Tryd.prog 66 #[v, .agg #[.int .i64 f, .int .i64 t]] w (WalkPost l f t w) := by
  have hwi := within_any f t (h.below (below_box w f t))
  have HW : Hid (∀ u er, GR true l (f, t) u er → er = 0 ∧ u = wth l (f, t)) := fun u er hg => hg.within hq ha
  clear hq ha h
  go_enter Tryd.func66, Tryd.ntmps66
  go_wp2_with fail
  refine hwi.mono ?_
  rintro e w2 ⟨v2, u, er, rfl, hown, hgr, hb2⟩
  obtain ⟨rfl, rfl⟩ := HW.out _ _ hgr
  obtain ⟨a, c, rfl⟩ := hown.shape
  clear hwi HW hgr
  have c0 : w2.cell? ⟨w.heap.size, 0, none⟩ = some (.int .i64 f) := (hb2.cell (p := ⟨w.heap.size, 0, none⟩) (by simp)).trans (box0 _ _ _ _)
  have c1 : w2.cell? ⟨w.heap.size, 1, none⟩ = some (.int .i64 t) := (hb2.cell (p := ⟨w.heap.size, 1, none⟩) (by simp)).trans (box1 _ _ _ _)
  have hp := pieces_any a (wth l (f, t)).length c f t w2
  have HO : Hid (SOwn w2 w.heap.size (.slice a (wth l (f, t)).length c) (wth l (f, t))) := SOwn.base hown (by simp)
  have HB2 : Hid (Below w.heap.size w w2) := (below_box w f t).trans (hb2.mono (by simp))
  clear hown hb2
  generalize hU : wth l (f, t) = U at hp HO
  have HU : Hid (wth l (f, t) = U) := hU
  clear hU
  go_wp2_with fail
  refine hp.mono ?_
  rintro e w3 ⟨rfl, rfl⟩
  clear hp c0 c1
  have hs := HB2.out.size
  go_wp2
  go_ret
  unfold WalkPost
  rw [HU.out]
  refine ⟨_, _, a, c, rfl, ?_, ?_, World.ownsRow.alloc (World.ownsRow.alloc HO.out _) _, by omega, hs, by omega, (HB2.out.alloc hs _).alloc (by simp; omega) _⟩
  · have := heap_alloc_new' (w2.alloc (.cells #[.slice a U.length c] 59)) (.cells #[.int .i64 f, .int .i64 t] 38)
    rw [World.size_alloc] at this; exact this
  · exact (Below.heap_alloc _ _ _ (by simp)).trans (heap_alloc_new' w2 _)

theorem places_any (at' : Int) (a : Option Addr) (n c : Nat) (w : World) (h0 : 0 ≤ at' ∧ at' ≤ 65536) (hn : n ≤ 65536) : Calls Tryd.prog 65 #[.int .i64 at', .slice a n c] w fun e w' => e = .returned (.agg #[.int .i64 at', .int .i64 (at' + n)]) ∧ Below w.heap.size w w' := by
  have hw : IntKind.i64.wrap (at' + n) = at' + n := by rw [IntKind.wrap_i64]; omega
  go_enter Tryd.func65, Tryd.ntmps65
  go_wp2
  refine bodyPost_ret (v := .agg #[.int .i64 at', .int .i64 (at' + n)]) (by simp [results, Tryd.results65, go_sem]) rfl ?_
  exact ⟨rfl, (Below.refl _ _).alloc (Nat.le_refl _) _⟩

end Go.Proofs.YthkphihgdklbbaaDoor.C
