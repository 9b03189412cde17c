import Derived.Test.YtnfbfdngdkkffabDoorPutB
namespace Go.Proofs.YtnfbfdngdkkffabDoor
open Go.RowKit

def clmB (low : Int) (cl : List (Int × Int)) : List Int := cl.flatMap fun p => jn [p.1 - low, p.2 - p.1]
/-- The bytes of a report's fields. -/
def repB (s : Sg) : List Int := jn [s.rep, s.chk, s.upp, s.low, (s.clm.length : Int)] ++ clmB s.low s.clm

/-- Spans whose bounds may be written. -/
def ClIn (low : Int) (cl : List (Int × Int)) : Prop := ∀ p ∈ cl, low ≤ p.1 ∧ p.1 ≤ p.2 ∧ p.2 ≤ 65536

set_option maxHeartbeats 4000000 in
theorem putReport_any (W : World) (v : Value) (m : Nat) (xs : List Value) (base : Nat) (s : Sg) (hv tv dv cv : Value) (w : World) (hC : CIn W cv s.clm) (hn1 : N62 s.rep) (hn2 : N62 s.chk) (hn3 : 0 ≤ s.upp ∧ s.upp ≤ 65536) (hn4 : 0 ≤ s.low ∧ s.low ≤ 65536) (hl : s.clm.length ≤ 1000) (hcl : ClIn s.low s.clm)
    (hWw : Below W.heap.size W w) (hbase : base ≤ w.heap.size) (hWb : W.heap.size ≤ base) (hown : w.ownsRow base 5 1 v m xs) (hm : m ≤ 10000000) :
    Calls Tryd.prog 65 #[v, .agg (svC s hv tv dv cv)] w (XPost v base m xs (repB s) w) := by
  obtain ⟨i0, hi, hz0, hz1, hz2⟩ := info_parts Tryd.info_u8
  have HO0 : Hid (w.ownsRow base 5 1 v m xs) := hown
  have HW0 : Hid (Below W.heap.size W w) := hWw
  obtain ⟨a, c, rfl, hsh⟩ := hC.shape
  have HSH : Hid (s.clm = [] ∨ ∃ g off, a = some ⟨g, off, none⟩ ∧ ∀ (i : Nat) (p : Int × Int), s.clm[i]? = some p → W.cell? ⟨g, off + i * 2, none⟩ = some (.int .i64 p.1) ∧ W.cell? ⟨g, off + i * 2 + 1, none⟩ = some (.int .i64 p.2)) := hsh
  have HCL : Hid (ClIn s.low s.clm) := hcl
  have HS1 : Hid (Smalls [s.rep, s.chk, s.upp, s.low, (s.clm.length : Int)]) := smalls_cons hn1 (smalls_cons hn2 (smalls_cons (by omega) (smalls_cons (by omega) (smalls_cons (by omega) smalls_nil))))
  have hj1 := jn_len _ HS1.out
  clear hown hWw hsh hC hn1 hn2 hcl
  go_enter Tryd.func65, Tryd.ntmps65
  go_wp2_with fail
  have hb1 : Blk .i64 ((w.alloc (svO s hv tv dv (.slice a s.clm.length c))).alloc (.cells #[.int .i64 s.rep, .int .i64 s.chk, .int .i64 s.upp, .int .i64 s.low, .int .i64 (s.clm.length : Int)] 3)) (w.heap.size + 1) 3 [s.rep, s.chk, s.upp, s.low, (s.clm.length : Int)] := by
    have := heap_alloc_new' (w.alloc (svO s hv tv dv (.slice a s.clm.length c))) (.cells #[.int .i64 s.rep, .int .i64 s.chk, .int .i64 s.upp, .int .i64 s.low, .int .i64 (s.clm.length : Int)] 3)
    simp only [World.size_alloc] at this
    exact this
  have hbx : ((w.alloc (svO s hv tv dv (.slice a s.clm.length c))).alloc (.cells #[.int .i64 s.rep, .int .i64 s.chk, .int .i64 s.upp, .int .i64 s.low, .int .i64 (s.clm.length : Int)] 3)).heap[w.heap.size]? = some (svO s hv tv dv (.slice a s.clm.length c)) := by
    rw [Below.heap_alloc _ _ _ (by simp)]; exact heap_alloc_new' _ _
  refine (putNumbers_any v m xs base (w.heap.size + 1) [s.rep, s.chk, s.upp, s.low, (s.clm.length : Int)] _ HS1.out (by simp) ((HO0.out.alloc _).alloc _) (by simp; omega) (by omega) hb1).mono ?_
  rintro e w2 ⟨v1, rfl, hown1, hgr1⟩
  have hbx2 := hgr1.keeps ((HO0.out.alloc _).alloc _) hbx (by decide)
  have hgr01 : Grew w w2 v v1 := (Grew.below (((Below.refl _ _).alloc (Nat.le_refl _) _).alloc (by simp) _)).trans hgr1
  have HO1 : Hid (w2.ownsRow base 5 1 v1 (m + (jn [s.rep, s.chk, s.upp, s.low, (s.clm.length : Int)]).length) (xs ++ (jn [s.rep, s.chk, s.upp, s.low, (s.clm.length : Int)]).map (Value.int .u8))) := hown1
  have HG1 : Hid (Grew w w2 v v1) := hgr01
  have HX2 : Hid (w2.heap[w.heap.size]? = some (svO s hv tv dv (.slice a s.clm.length c))) := hbx2
  have q12 := cell_of_row w2 w.heap.size 12 _ _ _ hbx2
  simp only [List.getElem?_toArray, List.getElem?_cons_succ, List.getElem?_cons_zero] at q12
  have hs2 : base ≤ w2.heap.size := by have := hgr01.grown.size; omega
  clear hb1 hbx hbx2 hgr1 hgr01 hown1
  simp only [List.length_cons, List.length_nil] at hj1
  generalize hJ1 : jn [s.rep, s.chk, s.upp, s.low, (s.clm.length : Int)] = J1 at *
  have HJ1 : Hid (jn [s.rep, s.chk, s.upp, s.low, (s.clm.length : Int)] = J1) := hJ1
  clear hJ1
  go_wp2_with fail
  go_loopw [0, 24] (fun v' i wr => ∃ (k : Nat) (bs : List Int), k ≤ s.clm.length ∧ i = .int .i64 k ∧ bs = clmB s.low (s.clm.take k) ∧ wr.ownsRow base 5 1 v' (m + J1.length + bs.length) (xs ++ (J1 ++ bs).map (Value.int .u8)) ∧ Grew w wr v v' ∧ wr.heap[w.heap.size]? = some (svO s hv tv dv (.slice a s.clm.length c)) ∧ bs.length ≤ 20 * k) (fun _ i _ => s.clm.length - (intOf i).toNat)
  case atStart => exact ⟨0, [], Nat.zero_le _, rfl, by simp [clmB], by simpa using HO1.out, HG1.out, HX2.out, by simp⟩
  case round =>
    obtain ⟨k, bs, hk, rfl, hbs, hown', hgr, hbx, hlen⟩ := hrel
    have HO : Hid (wr.ownsRow base 5 1 _ (m + J1.length + bs.length) (xs ++ (J1 ++ bs).map (Value.int .u8))) := hown'
    have HG : Hid (Grew w wr v _) := hgr
    have HX : Hid (wr.heap[w.heap.size]? = some (svO s hv tv dv (.slice a s.clm.length c))) := hbx
    have HBS : Hid (bs = clmB s.low (s.clm.take k)) := hbs
    have hsz := hgr.grown.size
    have HB : Hid (Below W.heap.size W wr) := HW0.out.trans ((grew_old hgr (by have := HW0.out.size; omega) (fun j hj => by have := (HO0.out.lt j hj).1; omega)).1)
    clear hown' hgr hbx hbs
    by_cases hlt : k < s.clm.length
    · have hlt' : (k : Int) < (s.clm.length : Int) := by omega
      have hx := List.getElem?_eq_getElem hlt
      have HT : Hid (clmB s.low (s.clm.take (k + 1)) = bs ++ jn [(s.clm[k]).1 - s.low, (s.clm[k]).2 - (s.clm[k]).1]) := by
        unfold Hid; rw [HBS.out, List.take_succ_eq_append_getElem hlt]; unfold clmB; rw [List.flatMap_append, List.flatMap_cons, List.flatMap_nil, List.append_nil]
      generalize s.clm[k] = p at hx HT
      have hmem : p ∈ s.clm := List.mem_of_getElem? hx
      obtain ⟨g, off, rfl, hcell⟩ : ∃ g off, a = some ⟨g, off, none⟩ ∧ ∀ (i : Nat) (p : Int × Int), s.clm[i]? = some p → W.cell? ⟨g, off + i * 2, none⟩ = some (.int .i64 p.1) ∧ W.cell? ⟨g, off + i * 2 + 1, none⟩ = some (.int .i64 p.2) := by
        rcases HSH.out with h | h
        · rw [h] at hlt; simp at hlt
        · exact h
      obtain ⟨q1, q2⟩ := hcell k p hx
      have r1 := cell_below q1 HB.out
      have r2 := cell_below q2 HB.out
      obtain ⟨t0, t1, t2⟩ := HCL.out p hmem
      obtain ⟨p1, p2⟩ := p
      simp only at r1 r2 t0 t1 t2 HT
      have r4 : (wr.alloc (.cells #[.int .i64 p1, .int .i64 p2] 37)).cell? ⟨w.heap.size, 11, none⟩ = some (.int .i64 s.low) := by
        have h1 := cell_of_row wr w.heap.size 11 _ _ _ HX.out
        exact cell_below h1 ((Below.refl _ _).alloc (Nat.le_refl _) _)
      have HS2 : Hid (Smalls [p1 - s.low, p2 - p1]) := smalls_cons (by omega) (smalls_cons (by omega) smalls_nil)
      have hj2 := jn_len _ HS2.out
      simp only [List.length_cons, List.length_nil] at hj2
      clear hcell q1 q2 hx hmem
      go_wp2_with fail
      have hb3 : Blk .i64 ((wr.alloc (.cells #[.int .i64 p1, .int .i64 p2] 37)).alloc (.cells #[.int .i64 (p1 - s.low), .int .i64 (p2 - p1)] 3)) (wr.heap.size + 1) 3 [p1 - s.low, p2 - p1] := by
        have := heap_alloc_new' (wr.alloc (.cells #[.int .i64 p1, .int .i64 p2] 37)) (.cells #[.int .i64 (p1 - s.low), .int .i64 (p2 - p1)] 3)
        simp only [World.size_alloc] at this
        exact this
      refine (putNumbers_any _ _ _ base (wr.heap.size + 1) [p1 - s.low, p2 - p1] _ HS2.out (by simp) ((HO.out.alloc _).alloc _) (by simp; omega) (by omega) hb3).mono ?_
      rintro e w4 ⟨v2, rfl, hown2, hgr2⟩
      have hbx4 := hgr2.keeps ((HO.out.alloc _).alloc _) ((Below.heap_alloc _ _ _ (by have := heap_lt HX.out; simp; omega)).trans ((Below.heap_alloc _ _ _ (heap_lt HX.out)).trans HX.out)) (by decide)
      have HG4 : Hid (Grew w w4 v v2) := HG.out.trans ((Grew.below (((Below.refl _ _).alloc (Nat.le_refl _) _).alloc (by simp) _)).trans hgr2)
      have HO4 : Hid (w4.ownsRow base 5 1 v2 (m + J1.length + (clmB s.low (s.clm.take (k + 1))).length) (xs ++ (J1 ++ clmB s.low (s.clm.take (k + 1))).map (Value.int .u8))) := by
        unfold Hid
        rw [HT.out]
        simpa [Nat.add_assoc] using hown2
      have HX4 : Hid (w4.heap[w.heap.size]? = some (svO s hv tv dv (.slice (some ⟨g, off, none⟩) s.clm.length c))) := hbx4
      have HL4 : Hid ((clmB s.low (s.clm.take (k + 1))).length ≤ 20 * (k + 1)) := by
        unfold Hid; rw [HT.out, List.length_append]; omega
      clear hown2 hgr2 hbx4 hb3 HO HG HX r1 r2 r4 hj2
      go_wp2
      go_roundw
      case rel => exact ⟨k + 1, _, by omega, by go_num, rfl, HO4.out, HG4.out, HX4.out, HL4.out⟩
      case measure => simp [intOf]; omega
    · have hkn : k = s.clm.length := by omega
      have HE : Hid (repB s = J1 ++ bs) := by
        unfold Hid repB; rw [HJ1.out, HBS.out, List.take_of_length_le (by omega)]
      go_wp2
      go_ret
      refine ⟨_, rfl, ?_, HG.out⟩
      rw [HE.out, List.length_append, ← Nat.add_assoc]
      exact HO.out

end Go.Proofs.YtnfbfdngdkkffabDoor
