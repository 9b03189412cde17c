import Derived.Test.YtnfbfdngdkkffabDoorPutX
namespace Go.Proofs.YtnfbfdngdkkffabDoor
open Go.RowKit

theorem heap_lt {w : World} {g : Nat} {o : Obj} (h : w.heap[g]? = some o) : g < w.heap.size := by
  rcases Nat.lt_or_ge g w.heap.size with q | q
  · exact q
  · rw [Array.getElem?_eq_none q] at h; cases h

theorem smalls_cons {n : Int} {l : List Int} (h : 0 ≤ n ∧ n ≤ 4611686018427387903) (hl : Smalls l) : Smalls (n :: l) := by
  intro z hz
  rcases List.mem_cons.mp hz with rfl | hz
  · exact h
  · exact hl z hz
theorem smalls_nil : Smalls [] := fun _ h => by cases h

/-- The bytes of a block's fields. -/
def blkB (h : Int) (s : Sg) : List Int := jn [s.srv, s.off, (s.data.length : Int)] ++ ((if h = 7 then jn [s.chk, s.rep] else []) ++ s.data)

def N62 (n : Int) : Prop := 0 ≤ n ∧ n ≤ 4611686018427387903

set_option maxHeartbeats 4000000 in
theorem putBlock7_any (W : World) (v : Value) (m : Nat) (xs : List Value) (base : Nat) (s : Sg) (hv tv cv : Value) (ad : Option Addr) (cd : Nat) (w : World) (hD : BIn W (.slice ad s.data.length cd) s.data) (hn1 : N62 s.srv) (hn2 : N62 s.off) (hn3 : N62 s.chk) (hn4 : N62 s.rep) (hd : s.data.length ≤ 70000)
    (hWw : Below W.heap.size W w) (hbase : base ≤ w.heap.size) (hWb : W.heap.size ≤ base) (hown : w.ownsRow base 5 1 v m xs) (hm : m ≤ 10000000) :
    Calls Tryd.prog 64 #[v, .agg (svC s hv tv (.slice ad s.data.length cd) cv), .int .u8 7] w (XPost v base m xs (blkB 7 s) w) := by
  obtain ⟨i0, hi, hz0, hz1, hz2⟩ := info_parts Tryd.info_u8
  have HO0 : Hid (w.ownsRow base 5 1 v m xs) := hown
  have HW0 : Hid (Below W.heap.size W w) := hWw
  obtain ⟨a, c, hve, hlies, hnil, _⟩ := hD.shape
  simp only [Value.slice.injEq, true_and] at hve
  obtain ⟨rfl, rfl⟩ := hve
  have HLI : Hid (Lies .u8 W ad s.data) := hlies
  have HNI : Hid (ad = none → s.data.length = 0 ∧ cd = 0) := hnil
  have HS1 : Hid (Smalls [s.srv, s.off, (s.data.length : Int)]) := smalls_cons hn1 (smalls_cons hn2 (smalls_cons (by omega) smalls_nil))
  have HS2 : Hid (Smalls [s.chk, s.rep]) := smalls_cons hn3 (smalls_cons hn4 smalls_nil)
  have hj1 := jn_len _ HS1.out
  have hj2 := jn_len _ HS2.out
  clear hown hWw hlies hnil hD hn1 hn2 hn3 hn4
  go_enter Tryd.func64, Tryd.ntmps64
  go_wp2_with fail
  have hb1 : Blk .i64 ((w.alloc (svO s hv tv (.slice ad s.data.length cd) cv)).alloc (.cells #[.int .i64 s.srv, .int .i64 s.off, .int .i64 (s.data.length : Int)] 3)) (w.heap.size + 1) 3 [s.srv, s.off, (s.data.length : Int)] := by
    have := heap_alloc_new' (w.alloc (svO s hv tv (.slice ad s.data.length cd) cv)) (.cells #[.int .i64 s.srv, .int .i64 s.off, .int .i64 (s.data.length : Int)] 3)
    simp only [World.size_alloc] at this
    exact this
  have hbx : ((w.alloc (svO s hv tv (.slice ad s.data.length cd) cv)).alloc (.cells #[.int .i64 s.srv, .int .i64 s.off, .int .i64 (s.data.length : Int)] 3)).heap[w.heap.size]? = some (svO s hv tv (.slice ad s.data.length cd) cv) := by
    rw [Below.heap_alloc _ _ _ (by simp)]; exact heap_alloc_new' _ _
  refine (putNumbers_any v m xs base (w.heap.size + 1) [s.srv, s.off, (s.data.length : Int)] _ HS1.out (by simp) ((HO0.out.alloc _).alloc _) (by simp; omega) (by omega) hb1).mono ?_
  rintro e w2 ⟨v1, rfl, hown1, hgr1⟩
  have hbx2 := hgr1.keeps ((HO0.out.alloc _).alloc _) hbx (by decide)
  have hgr01 : Grew w w2 v v1 := (Grew.below (((Below.refl _ _).alloc (Nat.le_refl _) _).alloc (by simp) _)).trans hgr1
  have HO1 : Hid (w2.ownsRow base 5 1 v1 (m + (jn [s.srv, s.off, (s.data.length : Int)]).length) (xs ++ (jn [s.srv, s.off, (s.data.length : Int)]).map (Value.int .u8))) := hown1
  have HG1 : Hid (Grew w w2 v v1) := hgr01
  have HX2 : Hid (w2.heap[w.heap.size]? = some (svO s hv tv (.slice ad s.data.length cd) cv)) := hbx2
  have q8 := cell_of_row w2 w.heap.size 8 _ _ _ hbx2
  have q9 := cell_of_row w2 w.heap.size 9 _ _ _ hbx2
  simp only [List.getElem?_toArray, List.getElem?_cons_succ, List.getElem?_cons_zero] at q8 q9
  have hs2 : base ≤ w2.heap.size := by have := hgr01.grown.size; omega
  clear hb1 hbx hbx2 hgr1 hgr01 hown1
  generalize hJ1 : jn [s.srv, s.off, (s.data.length : Int)] = J1 at *
  have HJ1 : Hid (jn [s.srv, s.off, (s.data.length : Int)] = J1) := hJ1
  clear hJ1
  simp only [List.length_cons, List.length_nil] at hj1 hj2
  go_wp2_with fail
  refine (any_any _ _ _).mono ?_
  rintro e w' ⟨rfl, rfl⟩
  rw [any7_4]
  go_wp2_with fail
  have hb3 : Blk .i64 (w2.alloc (.cells #[.int .i64 s.chk, .int .i64 s.rep] 3)) w2.heap.size 3 [s.chk, s.rep] := heap_alloc_new' _ _
  refine (putNumbers_any v1 _ _ base w2.heap.size [s.chk, s.rep] _ HS2.out (by simp) (HO1.out.alloc _) (by simp; omega) (by omega) hb3).mono ?_
  rintro e w4 ⟨v2, rfl, hown2, hgr2⟩
  have hbx4 := hgr2.keeps (HO1.out.alloc _) ((Below.heap_alloc _ _ _ (heap_lt HX2.out)).trans HX2.out) (by decide)
  have hgr24 : Grew w2 w4 v1 v2 := (Grew.below ((Below.refl _ _).alloc (Nat.le_refl _) _)).trans hgr2
  have HO2 : Hid (w4.ownsRow base 5 1 v2 (m + J1.length + (jn [s.chk, s.rep]).length) (xs ++ J1.map (Value.int .u8) ++ (jn [s.chk, s.rep]).map (Value.int .u8))) := hown2
  have HG2 : Hid (Grew w w4 v v2) := HG1.out.trans hgr24
  have HW4 : Hid (Below W.heap.size W w4) := HW0.out.trans ((grew_old HG2.out (by have := HW0.out.size; omega) (fun j hj => by have := (HO0.out.lt j hj).1; omega)).1)
  have q7 := cell_of_row w4 w.heap.size 7 _ _ _ hbx4
  simp only [List.getElem?_toArray, List.getElem?_cons_succ, List.getElem?_cons_zero] at q7
  have hs4 : base ≤ w4.heap.size := by have := hgr24.grown.size; omega
  clear hb3 hbx4 hgr2 hgr24 hown2 HO1 HG1 HX2 q8 q9
  generalize hJ2 : jn [s.chk, s.rep] = J2 at *
  have HJ2 : Hid (jn [s.chk, s.rep] = J2) := hJ2
  clear hJ2
  go_wp2_with (at_builtin; refine append_at _ rfl _ _ 25 rfl base 5 i0 (.int .u8 0) 1 Tryd.underlying25 hi hz0 hz1 hz2 rfl _ _ _ rfl HO2.out .u8 ad s.data.length cd s.data rfl HNI.out rfl (HLI.out.below HW4.out) (by unfold maxLen; omega) (by omega) hs4 ?_)
  intro v3 w5 hown5 hgr5 hst5
  have HG5 : Hid (Grew w w5 v v3) := HG2.out.trans ⟨hgr5, hst5⟩
  have HO5 : Hid (w5.ownsRow base 5 1 v3 (m + (blkB 7 s).length) (xs ++ (blkB 7 s).map (Value.int .u8))) := by
    unfold Hid blkB; rw [HJ1.out, HJ2.out, if_pos rfl]
    simpa [Nat.add_assoc] using hown5
  clear hown5 hgr5 hst5 HO2 HG2 HW4 q7
  go_wp2
  go_ret
  exact ⟨v3, rfl, HO5.out, HG5.out⟩

set_option maxHeartbeats 4000000 in
theorem putBlock3_any (W : World) (v : Value) (m : Nat) (xs : List Value) (base : Nat) (s : Sg) (hv tv cv : Value) (ad : Option Addr) (cd : Nat) (w : World) (hD : BIn W (.slice ad s.data.length cd) s.data) (hn1 : N62 s.srv) (hn2 : N62 s.off) (hd : s.data.length ≤ 70000)
    (hWw : Below W.heap.size W w) (hbase : base ≤ w.heap.size) (hWb : W.heap.size ≤ base) (hown : w.ownsRow base 5 1 v m xs) (hm : m ≤ 10000000) :
    Calls Tryd.prog 64 #[v, .agg (svC s hv tv (.slice ad s.data.length cd) cv), .int .u8 3] w (XPost v base m xs (blkB 3 s) w) := by
  obtain ⟨i0, hi, hz0, hz1, hz2⟩ := info_parts Tryd.info_u8
  have HO0 : Hid (w.ownsRow base 5 1 v m xs) := hown
  have HW0 : Hid (Below W.heap.size W w) := hWw
  obtain ⟨a, c, hve, hlies, hnil, _⟩ := hD.shape
  simp only [Value.slice.injEq, true_and] at hve
  obtain ⟨rfl, rfl⟩ := hve
  have HLI : Hid (Lies .u8 W ad s.data) := hlies
  have HNI : Hid (ad = none → s.data.length = 0 ∧ cd = 0) := hnil
  have HS1 : Hid (Smalls [s.srv, s.off, (s.data.length : Int)]) := smalls_cons hn1 (smalls_cons hn2 (smalls_cons (by omega) smalls_nil))
  have hj1 := jn_len _ HS1.out
  clear hown hWw hlies hnil hD hn1 hn2
  go_enter Tryd.func64, Tryd.ntmps64
  go_wp2_with fail
  have hb1 : Blk .i64 ((w.alloc (svO s hv tv (.slice ad s.data.length cd) cv)).alloc (.cells #[.int .i64 s.srv, .int .i64 s.off, .int .i64 (s.data.length : Int)] 3)) (w.heap.size + 1) 3 [s.srv, s.off, (s.data.length : Int)] := by
    have := heap_alloc_new' (w.alloc (svO s hv tv (.slice ad s.data.length cd) cv)) (.cells #[.int .i64 s.srv, .int .i64 s.off, .int .i64 (s.data.length : Int)] 3)
    simp only [World.size_alloc] at this
    exact this
  have hbx : ((w.alloc (svO s hv tv (.slice ad s.data.length cd) cv)).alloc (.cells #[.int .i64 s.srv, .int .i64 s.off, .int .i64 (s.data.length : Int)] 3)).heap[w.heap.size]? = some (svO s hv tv (.slice ad s.data.length cd) cv) := by
    rw [Below.heap_alloc _ _ _ (by simp)]; exact heap_alloc_new' _ _
  refine (putNumbers_any v m xs base (w.heap.size + 1) [s.srv, s.off, (s.data.length : Int)] _ HS1.out (by simp) ((HO0.out.alloc _).alloc _) (by simp; omega) (by omega) hb1).mono ?_
  rintro e w2 ⟨v1, rfl, hown1, hgr1⟩
  have hbx2 := hgr1.keeps ((HO0.out.alloc _).alloc _) hbx (by decide)
  have hgr01 : Grew w w2 v v1 := (Grew.below (((Below.refl _ _).alloc (Nat.le_refl _) _).alloc (by simp) _)).trans hgr1
  have HO1 : Hid (w2.ownsRow base 5 1 v1 (m + (jn [s.srv, s.off, (s.data.length : Int)]).length) (xs ++ (jn [s.srv, s.off, (s.data.length : Int)]).map (Value.int .u8))) := hown1
  have HG1 : Hid (Grew w w2 v v1) := hgr01
  have q7 := cell_of_row w2 w.heap.size 7 _ _ _ hbx2
  simp only [List.getElem?_toArray, List.getElem?_cons_succ, List.getElem?_cons_zero] at q7
  have HW2 : Hid (Below W.heap.size W w2) := HW0.out.trans ((grew_old HG1.out (by have := HW0.out.size; omega) (fun j hj => by have := (HO0.out.lt j hj).1; omega)).1)
  have hs2 : base ≤ w2.heap.size := by have := hgr01.grown.size; omega
  clear hb1 hbx hbx2 hgr1 hgr01 hown1
  generalize hJ1 : jn [s.srv, s.off, (s.data.length : Int)] = J1 at *
  have HJ1 : Hid (jn [s.srv, s.off, (s.data.length : Int)] = J1) := hJ1
  clear hJ1
  simp only [List.length_cons, List.length_nil] at hj1
  go_wp2_with fail
  refine (any_any _ _ _).mono ?_
  rintro e w' ⟨rfl, rfl⟩
  rw [any3_4]
  go_wp2_with (at_builtin; refine append_at _ rfl _ _ 25 rfl base 5 i0 (.int .u8 0) 1 Tryd.underlying25 hi hz0 hz1 hz2 rfl _ _ _ rfl HO1.out .u8 ad s.data.length cd s.data rfl HNI.out rfl (HLI.out.below HW2.out) (by unfold maxLen; omega) (by omega) hs2 ?_)
  intro v3 w5 hown5 hgr5 hst5
  have HG5 : Hid (Grew w w5 v v3) := HG1.out.trans ⟨hgr5, hst5⟩
  have HO5 : Hid (w5.ownsRow base 5 1 v3 (m + (blkB 3 s).length) (xs ++ (blkB 3 s).map (Value.int .u8))) := by
    unfold Hid blkB; rw [HJ1.out, if_neg (by decide)]
    simpa [Nat.add_assoc] using hown5
  clear hown5 hgr5 hst5 HO1 HG1 HW2 q7
  go_wp2
  go_ret
  exact ⟨v3, rfl, HO5.out, HG5.out⟩

end Go.Proofs.YtnfbfdngdkkffabDoor
