import Derived.Test.YtcfodcioeefbeaaDoorMay
namespace Go.Proofs.YtcfodcioeefbeaaDoor
open Go.RowKit

/-- An extension as bytes. -/
def encX (x : Ex) : List Int := x.tag :: (enc x.data.length ++ x.data)
def encXs (l : List Ex) : List Int := l.flatMap encX

def XPost (v0 : Value) (base m : Nat) (xs : List Value) (bs : List Int) (w : World) (e : Ending) (w' : World) : Prop :=
  ∃ v, e = .returned v ∧ w'.ownsRow base 5 1 v (m + bs.length) (xs ++ bs.map (Value.int .u8)) ∧ Grew w w' v0 v

theorem jn_one (n : Int) : jn [n] = enc n := by simp [jn]
theorem smalls_one {n : Int} (h : 0 ≤ n ∧ n ≤ 4611686018427387903) : Smalls [n] := by intro z hz; simp at hz; subst hz; exact h

/-- Each extension may be written, and lies apart from what is written to. -/
def XsIn (xs : List Xr) : Prop := ∀ x ∈ xs, 0 ≤ x.tag ∧ x.tag ≤ 255 ∧ x.data.length ≤ 200

/-- Blocks that came in stand below B. -/
theorem grew_old {w w' : World} {v v' : Value} {B : Nat} (h : Grew w w' v v') (hB : B ≤ w.heap.size) (hv : ∀ k, v.ownBlock = some k → B ≤ k) : Below B w w' ∧ ∀ k, v'.ownBlock = some k → B ≤ k :=
  ⟨(Below.refl _ _).grown h.grown hB hv, fun k hk => by rcases h.stays k hk with e | e; exact hv k e; omega⟩

set_option maxHeartbeats 4000000 in
theorem putExts_any (W : World) (v : Value) (m : Nat) (xs0 : List Value) (base : Nat) (xv : Value) (xs : List Xr) (w : World) (hX : XIn W xv xs) (hok : XsIn xs) (hl : xs.length ≤ 15) (hWw : Below W.heap.size W w) (hbase : base ≤ w.heap.size) (hWb : W.heap.size ≤ base) (hown : w.ownsRow base 5 1 v m xs0) (hm : m ≤ 10000000) :
    Calls Tryd.prog 51 #[v, xv] w (XPost v base m xs0 (encXs (xs.map Xr.ex)) w) := by
  obtain ⟨i0, hi, hz0, hz1, hz2⟩ := info_parts Tryd.info_u8
  obtain ⟨a, c, rfl, hsh⟩ := hX.shape
  have HD : Hid (∀ x ∈ xs, BIn W x.val x.data) := hX.data
  have HS : Hid (xs = [] ∨ ∃ g off, a = some ⟨g, off, none⟩ ∧ ∀ (i : Nat) (x : Xr), xs[i]? = some x → W.cell? ⟨g, off + i * 2, none⟩ = some (.int .i64 x.tag) ∧ W.cell? ⟨g, off + i * 2 + 1, none⟩ = some x.val) := hsh
  have HOK : Hid (XsIn xs) := hok
  have HO0 : Hid (w.ownsRow base 5 1 v m xs0) := hown
  have HW0 : Hid (Below W.heap.size W w) := hWw
  clear hX hsh hok hown hWw
  go_enter Tryd.func51, Tryd.ntmps51
  go_wp2_with fail
  go_loopw [0, 9] (fun v' i wr => ∃ k : Nat, k ≤ xs.length ∧ i = .int .i64 k ∧ wr.ownsRow base 5 1 v' (m + (encXs ((xs.take k).map Xr.ex)).length) (xs0 ++ (encXs ((xs.take k).map Xr.ex)).map (Value.int .u8)) ∧ Grew w wr v v' ∧ Below W.heap.size W wr ∧ (encXs ((xs.take k).map Xr.ex)).length ≤ k * 300) (fun _ i _ => xs.length - (intOf i).toNat)
  case atStart => exact ⟨0, Nat.zero_le _, rfl, by simpa [encXs] using HO0.out, Grew.refl _ _, HW0.out, by simp [encXs]⟩
  case round =>
    obtain ⟨k, hk, rfl, hown', hgr, hbel, hlen⟩ := hrel
    have HO : Hid (wr.ownsRow base 5 1 _ (m + (encXs ((xs.take k).map Xr.ex)).length) (xs0 ++ (encXs ((xs.take k).map Xr.ex)).map (Value.int .u8))) := hown'
    have HG : Hid (Grew w wr v _) := hgr
    have HB : Hid (Below W.heap.size W wr) := hbel
    have hsz := hgr.grown.size
    clear hown' hgr hbel
    by_cases hlt : k < xs.length
    · have hlt' : (k : Int) < (xs.length : Int) := by omega
      have hx := List.getElem?_eq_getElem hlt
      have HT : Hid (encXs ((xs.take (k + 1)).map Xr.ex) = encXs ((xs.take k).map Xr.ex) ++ encX (xs[k]).ex) := by
        unfold Hid; rw [List.take_succ_eq_append_getElem hlt, List.map_append]; simp [encXs]
      generalize xs[k] = x at hx HT
      generalize encXs ((xs.take k).map Xr.ex) = pre at *
      have hmem : x ∈ xs := List.mem_of_getElem? hx
      obtain ⟨g, off, rfl, hcell⟩ : ∃ g off, a = some ⟨g, off, none⟩ ∧ ∀ (i : Nat) (x : Xr), xs[i]? = some x → W.cell? ⟨g, off + i * 2, none⟩ = some (.int .i64 x.tag) ∧ W.cell? ⟨g, off + i * 2 + 1, none⟩ = some x.val := by
        rcases HS.out with h | h
        · rw [h] at hlt; simp at hlt
        · exact h
      obtain ⟨q1, q2⟩ := hcell k x hx
      have r1 := cell_below q1 HB.out
      have r2 := cell_below q2 HB.out
      obtain ⟨ad, cd, hv, hlies, hnil, _⟩ := (HD.out x hmem).shape
      obtain ⟨t0, t1, hdl⟩ := HOK.out x hmem
      rw [hv] at r2
      have HLI : Hid (Lies .u8 W ad x.data) := hlies
      have HNI : Hid (ad = none → x.data.length = 0 ∧ cd = 0) := hnil
      have ht : x.tag % 256 = x.tag := by omega
      clear hcell q1 q2 hx hmem hlies hnil hv
      go_wp2_with (at_builtin; refine append_at _ rfl _ _ 26 rfl base 5 i0 (.int .u8 0) 1 Tryd.underlying26 hi hz0 hz1 hz2 rfl _ _ _ rfl ((HO.out.alloc _).alloc _) .u8 (some ⟨wr.heap.size + 1, 0, none⟩) 1 1 [x.tag] rfl (fun h => by cases h) rfl ?cl (by unfold maxLen; omega) (by omega) (by simp; omega) ?_)
      case cl => exact (show Blk .u8 _ (wr.heap.size + 1) 5 [x.tag] from by
        have := heap_alloc_new' (wr.alloc (.cells #[.int .i64 x.tag, .slice ad x.data.length cd] 110)) (.cells #[.int .u8 x.tag] 5)
        simp only [World.size_alloc] at this
        exact this).lies 1
      intro v1 w1 hown1 hgr1 hst1
      have hg01 : Grew wr w1 _ v1 := (Grew.below (((Below.refl _ _).alloc (Nat.le_refl _) _).alloc (by simp) _)).trans ⟨hgr1, by simpa using hst1⟩
      have hbx1 : w1.heap[wr.heap.size]? = some (.cells #[.int .i64 x.tag, .slice ad x.data.length cd] 110) := by
        refine Grew.keeps (v := u0) (v' := v1) ⟨hgr1, by simpa using hst1⟩ ((HO.out.alloc _).alloc _) ?_ (by decide)
        rw [Below.heap_alloc _ _ _ (by simp)]; exact heap_alloc_new' _ _
      have HO1 : Hid (w1.ownsRow base 5 1 v1 (m + pre.length + 1) (xs0 ++ (pre ++ [x.tag]).map (Value.int .u8))) := by
        unfold Hid; simpa using hown1
      have HG1 : Hid (Grew w w1 v v1) := HG.out.trans hg01
      have HX1 : Hid (w1.heap[wr.heap.size]? = some (.cells #[.int .i64 x.tag, .slice ad x.data.length cd] 110)) := hbx1
      have c1 := cell_of_row w1 wr.heap.size 1 _ _ _ hbx1
      simp only [List.getElem?_toArray, List.getElem?_cons_succ, List.getElem?_cons_zero] at c1
      have hs1 : base ≤ w1.heap.size := by have := HG1.out.grown.size; omega
      clear hown1 hgr1 hst1 hg01 hbx1 HO HG r1 r2
      go_wp2_with fail
      have hb2 : Blk .i64 (w1.alloc (.cells #[.int .i64 (x.data.length : Int)] 3)) w1.heap.size 3 [(x.data.length : Int)] := heap_alloc_new' _ _
      refine (putNumbers_any v1 _ _ base w1.heap.size [(x.data.length : Int)] _ (smalls_one (by omega)) (by simp) (HO1.out.alloc _) (by simp; omega) (by omega) hb2).mono ?_
      rintro e w2 ⟨v2, rfl, hown2, hgr2⟩
      rw [jn_one] at hown2
      have hel : (enc (x.data.length : Int)).length ≤ 10 := by
        rw [enc_length _ (by omega) (by omega)]; exact (sz_bounds _ (by omega) (by omega)).2.1
      have hg12 : Grew w1 w2 v1 v2 := (Grew.below ((Below.refl _ _).alloc (Nat.le_refl _) _)).trans hgr2
      have hbx2 := hg12.keeps HO1.out HX1.out (by decide)
      have HO2 : Hid (w2.ownsRow base 5 1 v2 (m + pre.length + 1 + (enc (x.data.length : Int)).length) (xs0 ++ (pre ++ [x.tag]).map (Value.int .u8) ++ (enc (x.data.length : Int)).map (Value.int .u8))) := hown2
      have HG2 : Hid (Grew w w2 v v2) := HG1.out.trans hg12
      have c2 := cell_of_row w2 wr.heap.size 1 _ _ _ hbx2
      simp only [List.getElem?_toArray, List.getElem?_cons_succ, List.getElem?_cons_zero] at c2
      have hs2 : base ≤ w2.heap.size := by have := HG2.out.grown.size; omega
      have HW2 : Hid (Below W.heap.size W w2) := HW0.out.trans ((grew_old HG2.out (by have := HW0.out.size; omega) (fun j hj => by have := (HO0.out.lt j hj).1; omega)).1)
      clear hown2 hgr2 hg12 hbx2 HO1 HG1 HX1 c1 hb2
      generalize hen : enc (x.data.length : Int) = en at *
      have HEN : Hid (enc (x.data.length : Int) = en) := hen
      clear hen
      go_wp2_with (at_builtin; refine append_at _ rfl _ _ 26 rfl base 5 i0 (.int .u8 0) 1 Tryd.underlying26 hi hz0 hz1 hz2 rfl _ _ _ rfl HO2.out .u8 ad x.data.length cd x.data rfl HNI.out rfl (HLI.out.below HW2.out) (by unfold maxLen; omega) (by omega) hs2 ?_)
      intro v3 w3 hown3 hgr3 hst3
      have HG3 : Hid (Grew w w3 v v3) := HG2.out.trans ⟨hgr3, hst3⟩
      have HW3 : Hid (Below W.heap.size W w3) := HW0.out.trans ((grew_old HG3.out (by have := HW0.out.size; omega) (fun j hj => by have := (HO0.out.lt j hj).1; omega)).1)
      have HO3 : Hid (w3.ownsRow base 5 1 v3 (m + (encXs ((xs.take (k + 1)).map Xr.ex)).length) (xs0 ++ (encXs ((xs.take (k + 1)).map Xr.ex)).map (Value.int .u8))) := by
        unfold Hid
        rw [HT.out]
        simpa [encX, Xr.ex, HEN.out, Nat.add_assoc, Nat.add_comm, Nat.add_left_comm] using hown3
      have HL3 : Hid ((encXs ((xs.take (k + 1)).map Xr.ex)).length ≤ (k + 1) * 300) := by
        unfold Hid
        rw [HT.out]
        simp only [encX, Xr.ex, HEN.out, List.length_append, List.length_cons]
        omega
      clear hown3 hgr3 hst3 HO2 HG2 HW2 c2
      go_wp2
      go_roundw
      case rel => exact ⟨k + 1, by omega, by go_num, HO3.out, HG3.out, HW3.out, HL3.out⟩
      case measure => simp [intOf]; omega
    · have hkn : k = xs.length := by omega
      subst hkn
      clear hlt
      go_wp2
      go_ret
      refine ⟨_, rfl, ?_, HG.out⟩
      have := HO.out
      rw [List.take_of_length_le (Nat.le_refl _)] at this; exact this

end Go.Proofs.YtcfodcioeefbeaaDoor

namespace Go.Proofs.YtcfodcioeefbeaaDoor
open Go.RowKit

theorem heap_lt {w : World} {g : Nat} {o : Obj} (h : w.heap[g]? = some o) : g < w.heap.size := by
  rcases Nat.lt_or_ge g w.heap.size with q | q
  · exact q
  · rw [Array.getElem?_eq_none q] at h; cases h

theorem smalls_cons {n : Int} {l : List Int} (h : 0 ≤ n ∧ n ≤ 4611686018427387903) (hl : Smalls l) : Smalls (n :: l) := by
  intro z hz
  rcases List.mem_cons.mp hz with rfl | hz
  · exact h
  · exact hl z hz
theorem smalls_nil : Smalls [] := fun _ h => by cases h

/-- The bytes of a block's fields. -/
def blkB (h : Int) (s : Sg) : List Int := jn [s.srv, s.off, (s.data.length : Int)] ++ ((if h = 7 then jn [s.chk, s.rep] else []) ++ s.data)

def N62 (n : Int) : Prop := 0 ≤ n ∧ n ≤ 4611686018427387903

set_option maxHeartbeats 4000000 in
theorem putBlock7_any (W : World) (v : Value) (m : Nat) (xs : List Value) (base : Nat) (s : Sg) (hv tv cv : Value) (ad : Option Addr) (cd : Nat) (w : World) (hD : BIn W (.slice ad s.data.length cd) s.data) (hn1 : N62 s.srv) (hn2 : N62 s.off) (hn3 : N62 s.chk) (hn4 : N62 s.rep) (hd : s.data.length ≤ 70000)
    (hWw : Below W.heap.size W w) (hbase : base ≤ w.heap.size) (hWb : W.heap.size ≤ base) (hown : w.ownsRow base 5 1 v m xs) (hm : m ≤ 10000000) :
    Calls Tryd.prog 52 #[v, .agg (svC s hv tv (.slice ad s.data.length cd) cv), .int .u8 7] w (XPost v base m xs (blkB 7 s) w) := by
  obtain ⟨i0, hi, hz0, hz1, hz2⟩ := info_parts Tryd.info_u8
  have HO0 : Hid (w.ownsRow base 5 1 v m xs) := hown
  have HW0 : Hid (Below W.heap.size W w) := hWw
  obtain ⟨a, c, hve, hlies, hnil, _⟩ := hD.shape
  simp only [Value.slice.injEq, true_and] at hve
  obtain ⟨rfl, rfl⟩ := hve
  have HLI : Hid (Lies .u8 W ad s.data) := hlies
  have HNI : Hid (ad = none → s.data.length = 0 ∧ cd = 0) := hnil
  have HS1 : Hid (Smalls [s.srv, s.off, (s.data.length : Int)]) := smalls_cons hn1 (smalls_cons hn2 (smalls_cons (by omega) smalls_nil))
  have HS2 : Hid (Smalls [s.chk, s.rep]) := smalls_cons hn3 (smalls_cons hn4 smalls_nil)
  have hj1 := jn_len _ HS1.out
  have hj2 := jn_len _ HS2.out
  clear hown hWw hlies hnil hD hn1 hn2 hn3 hn4
  go_enter Tryd.func52, Tryd.ntmps52
  go_wp2_with fail
  have hb1 : Blk .i64 ((w.alloc (svO s hv tv (.slice ad s.data.length cd) cv)).alloc (.cells #[.int .i64 s.srv, .int .i64 s.off, .int .i64 (s.data.length : Int)] 3)) (w.heap.size + 1) 3 [s.srv, s.off, (s.data.length : Int)] := by
    have := heap_alloc_new' (w.alloc (svO s hv tv (.slice ad s.data.length cd) cv)) (.cells #[.int .i64 s.srv, .int .i64 s.off, .int .i64 (s.data.length : Int)] 3)
    simp only [World.size_alloc] at this
    exact this
  have hbx : ((w.alloc (svO s hv tv (.slice ad s.data.length cd) cv)).alloc (.cells #[.int .i64 s.srv, .int .i64 s.off, .int .i64 (s.data.length : Int)] 3)).heap[w.heap.size]? = some (svO s hv tv (.slice ad s.data.length cd) cv) := by
    rw [Below.heap_alloc _ _ _ (by simp)]; exact heap_alloc_new' _ _
  refine (putNumbers_any v m xs base (w.heap.size + 1) [s.srv, s.off, (s.data.length : Int)] _ HS1.out (by simp) ((HO0.out.alloc _).alloc _) (by simp; omega) (by omega) hb1).mono ?_
  rintro e w2 ⟨v1, rfl, hown1, hgr1⟩
  have hbx2 := hgr1.keeps ((HO0.out.alloc _).alloc _) hbx (by decide)
  have hgr01 : Grew w w2 v v1 := (Grew.below (((Below.refl _ _).alloc (Nat.le_refl _) _).alloc (by simp) _)).trans hgr1
  have HO1 : Hid (w2.ownsRow base 5 1 v1 (m + (jn [s.srv, s.off, (s.data.length : Int)]).length) (xs ++ (jn [s.srv, s.off, (s.data.length : Int)]).map (Value.int .u8))) := hown1
  have HG1 : Hid (Grew w w2 v v1) := hgr01
  have HX2 : Hid (w2.heap[w.heap.size]? = some (svO s hv tv (.slice ad s.data.length cd) cv)) := hbx2
  have q8 := cell_of_row w2 w.heap.size 8 _ _ _ hbx2
  have q9 := cell_of_row w2 w.heap.size 9 _ _ _ hbx2
  simp only [List.getElem?_toArray, List.getElem?_cons_succ, List.getElem?_cons_zero] at q8 q9
  have hs2 : base ≤ w2.heap.size := by have := hgr01.grown.size; omega
  clear hb1 hbx hbx2 hgr1 hgr01 hown1
  generalize hJ1 : jn [s.srv, s.off, (s.data.length : Int)] = J1 at *
  have HJ1 : Hid (jn [s.srv, s.off, (s.data.length : Int)] = J1) := hJ1
  clear hJ1
  simp only [List.length_cons, List.length_nil] at hj1 hj2
  go_wp2_with fail
  refine (any_any _ _ _).mono ?_
  rintro e w' ⟨rfl, rfl⟩
  rw [any7_4]
  go_wp2_with fail
  have hb3 : Blk .i64 (w2.alloc (.cells #[.int .i64 s.chk, .int .i64 s.rep] 3)) w2.heap.size 3 [s.chk, s.rep] := heap_alloc_new' _ _
  refine (putNumbers_any v1 _ _ base w2.heap.size [s.chk, s.rep] _ HS2.out (by simp) (HO1.out.alloc _) (by simp; omega) (by omega) hb3).mono ?_
  rintro e w4 ⟨v2, rfl, hown2, hgr2⟩
  have hbx4 := hgr2.keeps (HO1.out.alloc _) ((Below.heap_alloc _ _ _ (heap_lt HX2.out)).trans HX2.out) (by decide)
  have hgr24 : Grew w2 w4 v1 v2 := (Grew.below ((Below.refl _ _).alloc (Nat.le_refl _) _)).trans hgr2
  have HO2 : Hid (w4.ownsRow base 5 1 v2 (m + J1.length + (jn [s.chk, s.rep]).length) (xs ++ J1.map (Value.int .u8) ++ (jn [s.chk, s.rep]).map (Value.int .u8))) := hown2
  have HG2 : Hid (Grew w w4 v v2) := HG1.out.trans hgr24
  have HW4 : Hid (Below W.heap.size W w4) := HW0.out.trans ((grew_old HG2.out (by have := HW0.out.size; omega) (fun j hj => by have := (HO0.out.lt j hj).1; omega)).1)
  have q7 := cell_of_row w4 w.heap.size 7 _ _ _ hbx4
  simp only [List.getElem?_toArray, List.getElem?_cons_succ, List.getElem?_cons_zero] at q7
  have hs4 : base ≤ w4.heap.size := by have := hgr24.grown.size; omega
  clear hb3 hbx4 hgr2 hgr24 hown2 HO1 HG1 HX2 q8 q9
  generalize hJ2 : jn [s.chk, s.rep] = J2 at *
  have HJ2 : Hid (jn [s.chk, s.rep] = J2) := hJ2
  clear hJ2
  go_wp2_with (at_builtin; refine append_at _ rfl _ _ 26 rfl base 5 i0 (.int .u8 0) 1 Tryd.underlying26 hi hz0 hz1 hz2 rfl _ _ _ rfl HO2.out .u8 ad s.data.length cd s.data rfl HNI.out rfl (HLI.out.below HW4.out) (by unfold maxLen; omega) (by omega) hs4 ?_)
  intro v3 w5 hown5 hgr5 hst5
  have HG5 : Hid (Grew w w5 v v3) := HG2.out.trans ⟨hgr5, hst5⟩
  have HO5 : Hid (w5.ownsRow base 5 1 v3 (m + (blkB 7 s).length) (xs ++ (blkB 7 s).map (Value.int .u8))) := by
    unfold Hid blkB; rw [HJ1.out, HJ2.out, if_pos rfl]
    simpa [Nat.add_assoc] using hown5
  clear hown5 hgr5 hst5 HO2 HG2 HW4 q7
  go_wp2
  go_ret
  exact ⟨v3, rfl, HO5.out, HG5.out⟩

set_option maxHeartbeats 4000000 in
theorem putBlock3_any (W : World) (v : Value) (m : Nat) (xs : List Value) (base : Nat) (s : Sg) (hv tv cv : Value) (ad : Option Addr) (cd : Nat) (w : World) (hD : BIn W (.slice ad s.data.length cd) s.data) (hn1 : N62 s.srv) (hn2 : N62 s.off) (hd : s.data.length ≤ 70000)
    (hWw : Below W.heap.size W w) (hbase : base ≤ w.heap.size) (hWb : W.heap.size ≤ base) (hown : w.ownsRow base 5 1 v m xs) (hm : m ≤ 10000000) :
    Calls Tryd.prog 52 #[v, .agg (svC s hv tv (.slice ad s.data.length cd) cv), .int .u8 3] w (XPost v base m xs (blkB 3 s) w) := by
  obtain ⟨i0, hi, hz0, hz1, hz2⟩ := info_parts Tryd.info_u8
  have HO0 : Hid (w.ownsRow base 5 1 v m xs) := hown
  have HW0 : Hid (Below W.heap.size W w) := hWw
  obtain ⟨a, c, hve, hlies, hnil, _⟩ := hD.shape
  simp only [Value.slice.injEq, true_and] at hve
  obtain ⟨rfl, rfl⟩ := hve
  have HLI : Hid (Lies .u8 W ad s.data) := hlies
  have HNI : Hid (ad = none → s.data.length = 0 ∧ cd = 0) := hnil
  have HS1 : Hid (Smalls [s.srv, s.off, (s.data.length : Int)]) := smalls_cons hn1 (smalls_cons hn2 (smalls_cons (by omega) smalls_nil))
  have hj1 := jn_len _ HS1.out
  clear hown hWw hlies hnil hD hn1 hn2
  go_enter Tryd.func52, Tryd.ntmps52
  go_wp2_with fail
  have hb1 : Blk .i64 ((w.alloc (svO s hv tv (.slice ad s.data.length cd) cv)).alloc (.cells #[.int .i64 s.srv, .int .i64 s.off, .int .i64 (s.data.length : Int)] 3)) (w.heap.size + 1) 3 [s.srv, s.off, (s.data.length : Int)] := by
    have := heap_alloc_new' (w.alloc (svO s hv tv (.slice ad s.data.length cd) cv)) (.cells #[.int .i64 s.srv, .int .i64 s.off, .int .i64 (s.data.length : Int)] 3)
    simp only [World.size_alloc] at this
    exact this
  have hbx : ((w.alloc (svO s hv tv (.slice ad s.data.length cd) cv)).alloc (.cells #[.int .i64 s.srv, .int .i64 s.off, .int .i64 (s.data.length : Int)] 3)).heap[w.heap.size]? = some (svO s hv tv (.slice ad s.data.length cd) cv) := by
    rw [Below.heap_alloc _ _ _ (by simp)]; exact heap_alloc_new' _ _
  refine (putNumbers_any v m xs base (w.heap.size + 1) [s.srv, s.off, (s.data.length : Int)] _ HS1.out (by simp) ((HO0.out.alloc _).alloc _) (by simp; omega) (by omega) hb1).mono ?_
  rintro e w2 ⟨v1, rfl, hown1, hgr1⟩
  have hbx2 := hgr1.keeps ((HO0.out.alloc _).alloc _) hbx (by decide)
  have hgr01 : Grew w w2 v v1 := (Grew.below (((Below.refl _ _).alloc (Nat.le_refl _) _).alloc (by simp) _)).trans hgr1
  have HO1 : Hid (w2.ownsRow base 5 1 v1 (m + (jn [s.srv, s.off, (s.data.length : Int)]).length) (xs ++ (jn [s.srv, s.off, (s.data.length : Int)]).map (Value.int .u8))) := hown1
  have HG1 : Hid (Grew w w2 v v1) := hgr01
  have q7 := cell_of_row w2 w.heap.size 7 _ _ _ hbx2
  simp only [List.getElem?_toArray, List.getElem?_cons_succ, List.getElem?_cons_zero] at q7
  have HW2 : Hid (Below W.heap.size W w2) := HW0.out.trans ((grew_old HG1.out (by have := HW0.out.size; omega) (fun j hj => by have := (HO0.out.lt j hj).1; omega)).1)
  have hs2 : base ≤ w2.heap.size := by have := hgr01.grown.size; omega
  clear hb1 hbx hbx2 hgr1 hgr01 hown1
  generalize hJ1 : jn [s.srv, s.off, (s.data.length : Int)] = J1 at *
  have HJ1 : Hid (jn [s.srv, s.off, (s.data.length : Int)] = J1) := hJ1
  clear hJ1
  simp only [List.length_cons, List.length_nil] at hj1
  go_wp2_with fail
  refine (any_any _ _ _).mono ?_
  rintro e w' ⟨rfl, rfl⟩
  rw [any3_4]
  go_wp2_with (at_builtin; refine append_at _ rfl _ _ 26 rfl base 5 i0 (.int .u8 0) 1 Tryd.underlying26 hi hz0 hz1 hz2 rfl _ _ _ rfl HO1.out .u8 ad s.data.length cd s.data rfl HNI.out rfl (HLI.out.below HW2.out) (by unfold maxLen; omega) (by omega) hs2 ?_)
  intro v3 w5 hown5 hgr5 hst5
  have HG5 : Hid (Grew w w5 v v3) := HG1.out.trans ⟨hgr5, hst5⟩
  have HO5 : Hid (w5.ownsRow base 5 1 v3 (m + (blkB 3 s).length) (xs ++ (blkB 3 s).map (Value.int .u8))) := by
    unfold Hid blkB; rw [HJ1.out, if_neg (by decide)]
    simpa [Nat.add_assoc] using hown5
  clear hown5 hgr5 hst5 HO1 HG1 HW2 q7
  go_wp2
  go_ret
  exact ⟨v3, rfl, HO5.out, HG5.out⟩

end Go.Proofs.YtcfodcioeefbeaaDoor

namespace Go.Proofs.YtcfodcioeefbeaaDoor
open Go.RowKit

def clmB (low : Int) (cl : List (Int × Int)) : List Int := cl.flatMap fun p => jn [p.1 - low, p.2 - p.1]
/-- The bytes of a report's fields. -/
def repB (s : Sg) : List Int := jn [s.rep, s.chk, s.upp, s.low, (s.clm.length : Int)] ++ clmB s.low s.clm

/-- Spans whose bounds may be written. -/
def ClIn (low : Int) (cl : List (Int × Int)) : Prop := ∀ p ∈ cl, low ≤ p.1 ∧ p.1 ≤ p.2 ∧ p.2 ≤ 65536

set_option maxHeartbeats 4000000 in
theorem putReport_any (W : World) (v : Value) (m : Nat) (xs : List Value) (base : Nat) (s : Sg) (hv tv dv cv : Value) (w : World) (hC : CIn W cv s.clm) (hn1 : N62 s.rep) (hn2 : N62 s.chk) (hn3 : 0 ≤ s.upp ∧ s.upp ≤ 65536) (hn4 : 0 ≤ s.low ∧ s.low ≤ 65536) (hl : s.clm.length ≤ 1000) (hcl : ClIn s.low s.clm)
    (hWw : Below W.heap.size W w) (hbase : base ≤ w.heap.size) (hWb : W.heap.size ≤ base) (hown : w.ownsRow base 5 1 v m xs) (hm : m ≤ 10000000) :
    Calls Tryd.prog 53 #[v, .agg (svC s hv tv dv cv)] w (XPost v base m xs (repB s) w) := by
  obtain ⟨i0, hi, hz0, hz1, hz2⟩ := info_parts Tryd.info_u8
  have HO0 : Hid (w.ownsRow base 5 1 v m xs) := hown
  have HW0 : Hid (Below W.heap.size W w) := hWw
  obtain ⟨a, c, rfl, hsh⟩ := hC.shape
  have HSH : Hid (s.clm = [] ∨ ∃ g off, a = some ⟨g, off, none⟩ ∧ ∀ (i : Nat) (p : Int × Int), s.clm[i]? = some p → W.cell? ⟨g, off + i * 2, none⟩ = some (.int .i64 p.1) ∧ W.cell? ⟨g, off + i * 2 + 1, none⟩ = some (.int .i64 p.2)) := hsh
  have HCL : Hid (ClIn s.low s.clm) := hcl
  have HS1 : Hid (Smalls [s.rep, s.chk, s.upp, s.low, (s.clm.length : Int)]) := smalls_cons hn1 (smalls_cons hn2 (smalls_cons (by omega) (smalls_cons (by omega) (smalls_cons (by omega) smalls_nil))))
  have hj1 := jn_len _ HS1.out
  clear hown hWw hsh hC hn1 hn2 hcl
  go_enter Tryd.func53, Tryd.ntmps53
  go_wp2_with fail
  have hb1 : Blk .i64 ((w.alloc (svO s hv tv dv (.slice a s.clm.length c))).alloc (.cells #[.int .i64 s.rep, .int .i64 s.chk, .int .i64 s.upp, .int .i64 s.low, .int .i64 (s.clm.length : Int)] 3)) (w.heap.size + 1) 3 [s.rep, s.chk, s.upp, s.low, (s.clm.length : Int)] := by
    have := heap_alloc_new' (w.alloc (svO s hv tv dv (.slice a s.clm.length c))) (.cells #[.int .i64 s.rep, .int .i64 s.chk, .int .i64 s.upp, .int .i64 s.low, .int .i64 (s.clm.length : Int)] 3)
    simp only [World.size_alloc] at this
    exact this
  have hbx : ((w.alloc (svO s hv tv dv (.slice a s.clm.length c))).alloc (.cells #[.int .i64 s.rep, .int .i64 s.chk, .int .i64 s.upp, .int .i64 s.low, .int .i64 (s.clm.length : Int)] 3)).heap[w.heap.size]? = some (svO s hv tv dv (.slice a s.clm.length c)) := by
    rw [Below.heap_alloc _ _ _ (by simp)]; exact heap_alloc_new' _ _
  refine (putNumbers_any v m xs base (w.heap.size + 1) [s.rep, s.chk, s.upp, s.low, (s.clm.length : Int)] _ HS1.out (by simp) ((HO0.out.alloc _).alloc _) (by simp; omega) (by omega) hb1).mono ?_
  rintro e w2 ⟨v1, rfl, hown1, hgr1⟩
  have hbx2 := hgr1.keeps ((HO0.out.alloc _).alloc _) hbx (by decide)
  have hgr01 : Grew w w2 v v1 := (Grew.below (((Below.refl _ _).alloc (Nat.le_refl _) _).alloc (by simp) _)).trans hgr1
  have HO1 : Hid (w2.ownsRow base 5 1 v1 (m + (jn [s.rep, s.chk, s.upp, s.low, (s.clm.length : Int)]).length) (xs ++ (jn [s.rep, s.chk, s.upp, s.low, (s.clm.length : Int)]).map (Value.int .u8))) := hown1
  have HG1 : Hid (Grew w w2 v v1) := hgr01
  have HX2 : Hid (w2.heap[w.heap.size]? = some (svO s hv tv dv (.slice a s.clm.length c))) := hbx2
  have q12 := cell_of_row w2 w.heap.size 12 _ _ _ hbx2
  simp only [List.getElem?_toArray, List.getElem?_cons_succ, List.getElem?_cons_zero] at q12
  have hs2 : base ≤ w2.heap.size := by have := hgr01.grown.size; omega
  clear hb1 hbx hbx2 hgr1 hgr01 hown1
  simp only [List.length_cons, List.length_nil] at hj1
  generalize hJ1 : jn [s.rep, s.chk, s.upp, s.low, (s.clm.length : Int)] = J1 at *
  have HJ1 : Hid (jn [s.rep, s.chk, s.upp, s.low, (s.clm.length : Int)] = J1) := hJ1
  clear hJ1
  go_wp2_with fail
  go_loopw [0, 24] (fun v' i wr => ∃ (k : Nat) (bs : List Int), k ≤ s.clm.length ∧ i = .int .i64 k ∧ bs = clmB s.low (s.clm.take k) ∧ wr.ownsRow base 5 1 v' (m + J1.length + bs.length) (xs ++ (J1 ++ bs).map (Value.int .u8)) ∧ Grew w wr v v' ∧ wr.heap[w.heap.size]? = some (svO s hv tv dv (.slice a s.clm.length c)) ∧ bs.length ≤ 20 * k) (fun _ i _ => s.clm.length - (intOf i).toNat)
  case atStart => exact ⟨0, [], Nat.zero_le _, rfl, by simp [clmB], by simpa using HO1.out, HG1.out, HX2.out, by simp⟩
  case round =>
    obtain ⟨k, bs, hk, rfl, hbs, hown', hgr, hbx, hlen⟩ := hrel
    have HO : Hid (wr.ownsRow base 5 1 _ (m + J1.length + bs.length) (xs ++ (J1 ++ bs).map (Value.int .u8))) := hown'
    have HG : Hid (Grew w wr v _) := hgr
    have HX : Hid (wr.heap[w.heap.size]? = some (svO s hv tv dv (.slice a s.clm.length c))) := hbx
    have HBS : Hid (bs = clmB s.low (s.clm.take k)) := hbs
    have hsz := hgr.grown.size
    have HB : Hid (Below W.heap.size W wr) := HW0.out.trans ((grew_old hgr (by have := HW0.out.size; omega) (fun j hj => by have := (HO0.out.lt j hj).1; omega)).1)
    clear hown' hgr hbx hbs
    by_cases hlt : k < s.clm.length
    · have hlt' : (k : Int) < (s.clm.length : Int) := by omega
      have hx := List.getElem?_eq_getElem hlt
      have HT : Hid (clmB s.low (s.clm.take (k + 1)) = bs ++ jn [(s.clm[k]).1 - s.low, (s.clm[k]).2 - (s.clm[k]).1]) := by
        unfold Hid; rw [HBS.out, List.take_succ_eq_append_getElem hlt]; unfold clmB; rw [List.flatMap_append, List.flatMap_cons, List.flatMap_nil, List.append_nil]
      generalize s.clm[k] = p at hx HT
      have hmem : p ∈ s.clm := List.mem_of_getElem? hx
      obtain ⟨g, off, rfl, hcell⟩ : ∃ g off, a = some ⟨g, off, none⟩ ∧ ∀ (i : Nat) (p : Int × Int), s.clm[i]? = some p → W.cell? ⟨g, off + i * 2, none⟩ = some (.int .i64 p.1) ∧ W.cell? ⟨g, off + i * 2 + 1, none⟩ = some (.int .i64 p.2) := by
        rcases HSH.out with h | h
        · rw [h] at hlt; simp at hlt
        · exact h
      obtain ⟨q1, q2⟩ := hcell k p hx
      have r1 := cell_below q1 HB.out
      have r2 := cell_below q2 HB.out
      obtain ⟨t0, t1, t2⟩ := HCL.out p hmem
      obtain ⟨p1, p2⟩ := p
      simp only at r1 r2 t0 t1 t2 HT
      have r4 : (wr.alloc (.cells #[.int .i64 p1, .int .i64 p2] 113)).cell? ⟨w.heap.size, 11, none⟩ = some (.int .i64 s.low) := by
        have h1 := cell_of_row wr w.heap.size 11 _ _ _ HX.out
        exact cell_below h1 ((Below.refl _ _).alloc (Nat.le_refl _) _)
      have HS2 : Hid (Smalls [p1 - s.low, p2 - p1]) := smalls_cons (by omega) (smalls_cons (by omega) smalls_nil)
      have hj2 := jn_len _ HS2.out
      simp only [List.length_cons, List.length_nil] at hj2
      clear hcell q1 q2 hx hmem
      go_wp2_with fail
      have hb3 : Blk .i64 ((wr.alloc (.cells #[.int .i64 p1, .int .i64 p2] 113)).alloc (.cells #[.int .i64 (p1 - s.low), .int .i64 (p2 - p1)] 3)) (wr.heap.size + 1) 3 [p1 - s.low, p2 - p1] := by
        have := heap_alloc_new' (wr.alloc (.cells #[.int .i64 p1, .int .i64 p2] 113)) (.cells #[.int .i64 (p1 - s.low), .int .i64 (p2 - p1)] 3)
        simp only [World.size_alloc] at this
        exact this
      refine (putNumbers_any _ _ _ base (wr.heap.size + 1) [p1 - s.low, p2 - p1] _ HS2.out (by simp) ((HO.out.alloc _).alloc _) (by simp; omega) (by omega) hb3).mono ?_
      rintro e w4 ⟨v2, rfl, hown2, hgr2⟩
      have hbx4 := hgr2.keeps ((HO.out.alloc _).alloc _) ((Below.heap_alloc _ _ _ (by have := heap_lt HX.out; simp; omega)).trans ((Below.heap_alloc _ _ _ (heap_lt HX.out)).trans HX.out)) (by decide)
      have HG4 : Hid (Grew w w4 v v2) := HG.out.trans ((Grew.below (((Below.refl _ _).alloc (Nat.le_refl _) _).alloc (by simp) _)).trans hgr2)
      have HO4 : Hid (w4.ownsRow base 5 1 v2 (m + J1.length + (clmB s.low (s.clm.take (k + 1))).length) (xs ++ (J1 ++ clmB s.low (s.clm.take (k + 1))).map (Value.int .u8))) := by
        unfold Hid
        rw [HT.out]
        simpa [Nat.add_assoc] using hown2
      have HX4 : Hid (w4.heap[w.heap.size]? = some (svO s hv tv dv (.slice (some ⟨g, off, none⟩) s.clm.length c))) := hbx4
      have HL4 : Hid ((clmB s.low (s.clm.take (k + 1))).length ≤ 20 * (k + 1)) := by
        unfold Hid; rw [HT.out, List.length_append]; omega
      clear hown2 hgr2 hbx4 hb3 HO HG HX r1 r2 r4 hj2
      go_wp2
      go_roundw
      case rel => exact ⟨k + 1, _, by omega, by go_num, rfl, HO4.out, HG4.out, HX4.out, HL4.out⟩
      case measure => simp [intOf]; omega
    · have hkn : k = s.clm.length := by omega
      have HE : Hid (repB s = J1 ++ bs) := by
        unfold Hid repB; rw [HJ1.out, HBS.out, List.take_of_length_le (by omega)]
      go_wp2
      go_ret
      refine ⟨_, rfl, ?_, HG.out⟩
      rw [HE.out, List.length_append, ← Nat.add_assoc]
      exact HO.out

end Go.Proofs.YtcfodcioeefbeaaDoor
