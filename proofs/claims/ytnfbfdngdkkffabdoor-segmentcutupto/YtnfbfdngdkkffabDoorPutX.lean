import Derived.Test.YtnfbfdngdkkffabDoorFld
namespace Go.Proofs.YtnfbfdngdkkffabDoor
open Go.RowKit

/-- An extension as bytes. -/
def encX (x : Ex) : List Int := x.tag :: (enc x.data.length ++ x.data)
def encXs (l : List Ex) : List Int := l.flatMap encX

def XPost (v0 : Value) (base m : Nat) (xs : List Value) (bs : List Int) (w : World) (e : Ending) (w' : World) : Prop :=
  ∃ v, e = .returned v ∧ w'.ownsRow base 5 1 v (m + bs.length) (xs ++ bs.map (Value.int .u8)) ∧ Grew w w' v0 v

theorem jn_one (n : Int) : jn [n] = enc n := by simp [jn]
theorem smalls_one {n : Int} (h : 0 ≤ n ∧ n ≤ 4611686018427387903) : Smalls [n] := by intro z hz; simp at hz; subst hz; exact h

/-- Each extension may be written, and lies apart from what is written to. -/
def XsIn (xs : List Xr) : Prop := ∀ x ∈ xs, 0 ≤ x.tag ∧ x.tag ≤ 255 ∧ x.data.length ≤ 200

/-- Blocks that came in stand below B. -/
theorem grew_old {w w' : World} {v v' : Value} {B : Nat} (h : Grew w w' v v') (hB : B ≤ w.heap.size) (hv : ∀ k, v.ownBlock = some k → B ≤ k) : Below B w w' ∧ ∀ k, v'.ownBlock = some k → B ≤ k :=
  ⟨(Below.refl _ _).grown h.grown hB hv, fun k hk => by rcases h.stays k hk with e | e; exact hv k e; omega⟩

set_option maxHeartbeats 4000000 in
theorem putExts_any (W : World) (v : Value) (m : Nat) (xs0 : List Value) (base : Nat) (xv : Value) (xs : List Xr) (w : World) (hX : XIn W xv xs) (hok : XsIn xs) (hl : xs.length ≤ 15) (hWw : Below W.heap.size W w) (hbase : base ≤ w.heap.size) (hWb : W.heap.size ≤ base) (hown : w.ownsRow base 5 1 v m xs0) (hm : m ≤ 10000000) :
    Calls Tryd.prog 63 #[v, xv] w (XPost v base m xs0 (encXs (xs.map Xr.ex)) w) := by
  obtain ⟨i0, hi, hz0, hz1, hz2⟩ := info_parts Tryd.info_u8
  obtain ⟨a, c, rfl, hsh⟩ := hX.shape
  have HD : Hid (∀ x ∈ xs, BIn W x.val x.data) := hX.data
  have HS : Hid (xs = [] ∨ ∃ g off, a = some ⟨g, off, none⟩ ∧ ∀ (i : Nat) (x : Xr), xs[i]? = some x → W.cell? ⟨g, off + i * 2, none⟩ = some (.int .i64 x.tag) ∧ W.cell? ⟨g, off + i * 2 + 1, none⟩ = some x.val) := hsh
  have HOK : Hid (XsIn xs) := hok
  have HO0 : Hid (w.ownsRow base 5 1 v m xs0) := hown
  have HW0 : Hid (Below W.heap.size W w) := hWw
  clear hX hsh hok hown hWw
  go_enter Tryd.func63, Tryd.ntmps63
  go_wp2_with fail
  go_loopw [0, 9] (fun v' i wr => ∃ k : Nat, k ≤ xs.length ∧ i = .int .i64 k ∧ wr.ownsRow base 5 1 v' (m + (encXs ((xs.take k).map Xr.ex)).length) (xs0 ++ (encXs ((xs.take k).map Xr.ex)).map (Value.int .u8)) ∧ Grew w wr v v' ∧ Below W.heap.size W wr ∧ (encXs ((xs.take k).map Xr.ex)).length ≤ k * 300) (fun _ i _ => xs.length - (intOf i).toNat)
  case atStart => exact ⟨0, Nat.zero_le _, rfl, by simpa [encXs] using HO0.out, Grew.refl _ _, HW0.out, by simp [encXs]⟩
  case round =>
    obtain ⟨k, hk, rfl, hown', hgr, hbel, hlen⟩ := hrel
    have HO : Hid (wr.ownsRow base 5 1 _ (m + (encXs ((xs.take k).map Xr.ex)).length) (xs0 ++ (encXs ((xs.take k).map Xr.ex)).map (Value.int .u8))) := hown'
    have HG : Hid (Grew w wr v _) := hgr
    have HB : Hid (Below W.heap.size W wr) := hbel
    have hsz := hgr.grown.size
    clear hown' hgr hbel
    by_cases hlt : k < xs.length
    · have hlt' : (k : Int) < (xs.length : Int) := by omega
      have hx := List.getElem?_eq_getElem hlt
      have HT : Hid (encXs ((xs.take (k + 1)).map Xr.ex) = encXs ((xs.take k).map Xr.ex) ++ encX (xs[k]).ex) := by
        unfold Hid; rw [List.take_succ_eq_append_getElem hlt, List.map_append]; simp [encXs]
      generalize xs[k] = x at hx HT
      generalize encXs ((xs.take k).map Xr.ex) = pre at *
      have hmem : x ∈ xs := List.mem_of_getElem? hx
      obtain ⟨g, off, rfl, hcell⟩ : ∃ g off, a = some ⟨g, off, none⟩ ∧ ∀ (i : Nat) (x : Xr), xs[i]? = some x → W.cell? ⟨g, off + i * 2, none⟩ = some (.int .i64 x.tag) ∧ W.cell? ⟨g, off + i * 2 + 1, none⟩ = some x.val := by
        rcases HS.out with h | h
        · rw [h] at hlt; simp at hlt
        · exact h
      obtain ⟨q1, q2⟩ := hcell k x hx
      have r1 := cell_below q1 HB.out
      have r2 := cell_below q2 HB.out
      obtain ⟨ad, cd, hv, hlies, hnil, _⟩ := (HD.out x hmem).shape
      obtain ⟨t0, t1, hdl⟩ := HOK.out x hmem
      rw [hv] at r2
      have HLI : Hid (Lies .u8 W ad x.data) := hlies
      have HNI : Hid (ad = none → x.data.length = 0 ∧ cd = 0) := hnil
      have ht : x.tag % 256 = x.tag := by omega
      clear hcell q1 q2 hx hmem hlies hnil hv
      go_wp2_with (at_builtin; refine append_at _ rfl _ _ 25 rfl base 5 i0 (.int .u8 0) 1 Tryd.underlying25 hi hz0 hz1 hz2 rfl _ _ _ rfl ((HO.out.alloc _).alloc _) .u8 (some ⟨wr.heap.size + 1, 0, none⟩) 1 1 [x.tag] rfl (fun h => by cases h) rfl ?cl (by unfold maxLen; omega) (by omega) (by simp; omega) ?_)
      case cl => exact (show Blk .u8 _ (wr.heap.size + 1) 5 [x.tag] from by
        have := heap_alloc_new' (wr.alloc (.cells #[.int .i64 x.tag, .slice ad x.data.length cd] 81)) (.cells #[.int .u8 x.tag] 5)
        simp only [World.size_alloc] at this
        exact this).lies 1
      intro v1 w1 hown1 hgr1 hst1
      have hg01 : Grew wr w1 _ v1 := (Grew.below (((Below.refl _ _).alloc (Nat.le_refl _) _).alloc (by simp) _)).trans ⟨hgr1, by simpa using hst1⟩
      have hbx1 : w1.heap[wr.heap.size]? = some (.cells #[.int .i64 x.tag, .slice ad x.data.length cd] 81) := by
        refine Grew.keeps (v := u0) (v' := v1) ⟨hgr1, by simpa using hst1⟩ ((HO.out.alloc _).alloc _) ?_ (by decide)
        rw [Below.heap_alloc _ _ _ (by simp)]; exact heap_alloc_new' _ _
      have HO1 : Hid (w1.ownsRow base 5 1 v1 (m + pre.length + 1) (xs0 ++ (pre ++ [x.tag]).map (Value.int .u8))) := by
        unfold Hid; simpa using hown1
      have HG1 : Hid (Grew w w1 v v1) := HG.out.trans hg01
      have HX1 : Hid (w1.heap[wr.heap.size]? = some (.cells #[.int .i64 x.tag, .slice ad x.data.length cd] 81)) := hbx1
      have c1 := cell_of_row w1 wr.heap.size 1 _ _ _ hbx1
      simp only [List.getElem?_toArray, List.getElem?_cons_succ, List.getElem?_cons_zero] at c1
      have hs1 : base ≤ w1.heap.size := by have := HG1.out.grown.size; omega
      clear hown1 hgr1 hst1 hg01 hbx1 HO HG r1 r2
      go_wp2_with fail
      have hb2 : Blk .i64 (w1.alloc (.cells #[.int .i64 (x.data.length : Int)] 3)) w1.heap.size 3 [(x.data.length : Int)] := heap_alloc_new' _ _
      refine (putNumbers_any v1 _ _ base w1.heap.size [(x.data.length : Int)] _ (smalls_one (by omega)) (by simp) (HO1.out.alloc _) (by simp; omega) (by omega) hb2).mono ?_
      rintro e w2 ⟨v2, rfl, hown2, hgr2⟩
      rw [jn_one] at hown2
      have hel : (enc (x.data.length : Int)).length ≤ 10 := by
        rw [enc_length _ (by omega) (by omega)]; exact (sz_bounds _ (by omega) (by omega)).2.1
      have hg12 : Grew w1 w2 v1 v2 := (Grew.below ((Below.refl _ _).alloc (Nat.le_refl _) _)).trans hgr2
      have hbx2 := hg12.keeps HO1.out HX1.out (by decide)
      have HO2 : Hid (w2.ownsRow base 5 1 v2 (m + pre.length + 1 + (enc (x.data.length : Int)).length) (xs0 ++ (pre ++ [x.tag]).map (Value.int .u8) ++ (enc (x.data.length : Int)).map (Value.int .u8))) := hown2
      have HG2 : Hid (Grew w w2 v v2) := HG1.out.trans hg12
      have c2 := cell_of_row w2 wr.heap.size 1 _ _ _ hbx2
      simp only [List.getElem?_toArray, List.getElem?_cons_succ, List.getElem?_cons_zero] at c2
      have hs2 : base ≤ w2.heap.size := by have := HG2.out.grown.size; omega
      have HW2 : Hid (Below W.heap.size W w2) := HW0.out.trans ((grew_old HG2.out (by have := HW0.out.size; omega) (fun j hj => by have := (HO0.out.lt j hj).1; omega)).1)
      clear hown2 hgr2 hg12 hbx2 HO1 HG1 HX1 c1 hb2
      generalize hen : enc (x.data.length : Int) = en at *
      have HEN : Hid (enc (x.data.length : Int) = en) := hen
      clear hen
      go_wp2_with (at_builtin; refine append_at _ rfl _ _ 25 rfl base 5 i0 (.int .u8 0) 1 Tryd.underlying25 hi hz0 hz1 hz2 rfl _ _ _ rfl HO2.out .u8 ad x.data.length cd x.data rfl HNI.out rfl (HLI.out.below HW2.out) (by unfold maxLen; omega) (by omega) hs2 ?_)
      intro v3 w3 hown3 hgr3 hst3
      have HG3 : Hid (Grew w w3 v v3) := HG2.out.trans ⟨hgr3, hst3⟩
      have HW3 : Hid (Below W.heap.size W w3) := HW0.out.trans ((grew_old HG3.out (by have := HW0.out.size; omega) (fun j hj => by have := (HO0.out.lt j hj).1; omega)).1)
      have HO3 : Hid (w3.ownsRow base 5 1 v3 (m + (encXs ((xs.take (k + 1)).map Xr.ex)).length) (xs0 ++ (encXs ((xs.take (k + 1)).map Xr.ex)).map (Value.int .u8))) := by
        unfold Hid
        rw [HT.out]
        simpa [encX, Xr.ex, HEN.out, Nat.add_assoc, Nat.add_comm, Nat.add_left_comm] using hown3
      have HL3 : Hid ((encXs ((xs.take (k + 1)).map Xr.ex)).length ≤ (k + 1) * 300) := by
        unfold Hid
        rw [HT.out]
        simp only [encX, Xr.ex, HEN.out, List.length_append, List.length_cons]
        omega
      clear hown3 hgr3 hst3 HO2 HG2 HW2 c2
      go_wp2
      go_roundw
      case rel => exact ⟨k + 1, by omega, by go_num, HO3.out, HG3.out, HW3.out, HL3.out⟩
      case measure => simp [intOf]; omega
    · have hkn : k = xs.length := by omega
      subst hkn
      clear hlt
      go_wp2
      go_ret
      refine ⟨_, rfl, ?_, HG.out⟩
      have := HO.out
      rw [List.take_of_length_le (Nat.le_refl _)] at this; exact this

end Go.Proofs.YtnfbfdngdkkffabDoor
