import Derived.Test.YtcfodcioeefbeaaDoorPutX
import Derived.Laws.OwnMore
namespace Go.Proofs.YtcfodcioeefbeaaDoor
open Go.RowKit

def conB (h : Int) (s : Sg) : List Int := if h = 3 ∨ h = 7 then blkB h s else if h = 9 then repB s else if h = 17 then jn [s.rep] else if h = 33 then [s.rsn] else []
/-- The bytes of a segment. -/
def layB (h : Int) (s : Sg) : List Int := s.typ :: (jn [s.org, s.num] ++ ((16 * (s.head.length : Int) + s.tail.length) :: (encXs s.head ++ (conB h s ++ encXs s.tail))))

/-- What of a segment is asked to write it. -/
structure Wr (h : Int) (s : Sg) (hx tx : List Xr) : Prop where
  typ : 0 ≤ s.typ ∧ s.typ ≤ 15
  org : N62 s.org
  num : N62 s.num
  head : XsIn hx
  tail : XsIn tx
  headL : hx.length ≤ 15
  tailL : tx.length ≤ 15
  srv : N62 s.srv
  off : N62 s.off
  chk : N62 s.chk
  rep : N62 s.rep
  data : s.data.length ≤ 70000
  upp : 0 ≤ s.upp ∧ s.upp ≤ 65536
  low : 0 ≤ s.low ∧ s.low ≤ 65536
  clm : s.clm.length ≤ 1000
  cls : ClIn s.low s.clm
  rsn : 0 ≤ s.rsn ∧ s.rsn ≤ 255

def FormP (bs : List Int) (w : World) (e : Ending) (w' : World) : Prop := ∃ v, e = .returned v ∧ w'.ownsRow w.heap.size 5 1 v bs.length (bs.map (Value.int .u8)) ∧ Below w.heap.size w w'

theorem or16 (a b : Nat) (ha : a ≤ 15) (hb : b ≤ 15) : bits .or .i64 ((a : Int) * 16) (b : Int) % 256 = 16 * (a : Int) + b := by
  have : ∀ x : Fin 16, ∀ y : Fin 16, bits .or .i64 (((x : Nat) : Int) * 16) ((y : Nat) : Int) % 256 = 16 * ((x : Nat) : Int) + ((y : Nat) : Int) := by decide +kernel
  exact this ⟨a, by omega⟩ ⟨b, by omega⟩
theorem encXs_len (l : List Xr) (h : XsIn l) : (encXs (l.map Xr.ex)).length ≤ 300 * l.length := by
  induction l with
  | nil => simp [encXs]
  | cons x l ih =>
    have h1 := ih (fun y hy => h y (by simp [hy]))
    have h2 := h x (by simp)
    have h3 : (enc (x.data.length : Int)).length ≤ 10 := by
      rw [enc_length _ (by omega) (by omega)]; exact (sz_bounds _ (by omega) (by omega)).2.1
    simp only [List.map_cons, encXs, List.flatMap_cons, List.length_append, encX, Xr.ex, List.length_cons] at h1 ⊢
    omega

theorem own_app {w : World} {base : Nat} {v : Value} {L bs : List Int} (h : w.ownsRow base 5 1 v (L.length + bs.length) (L.map (Value.int .u8) ++ bs.map (Value.int .u8))) : w.ownsRow base 5 1 v (L ++ bs).length ((L ++ bs).map (Value.int .u8)) := by
  rw [List.length_append, List.map_append]; exact h
theorem clmB_len (low : Int) (cl : List (Int × Int)) (h : ClIn low cl) (hl : 0 ≤ low) : (clmB low cl).length ≤ 20 * cl.length := by
  induction cl with
  | nil => simp [clmB]
  | cons p l ih =>
    have h1 := ih (fun y hy => h y (by simp [hy]))
    obtain ⟨a, b, c⟩ := h p (by simp)
    have h2 := jn_len [p.1 - low, p.2 - p.1] (smalls_cons (by omega) (smalls_cons (by omega) smalls_nil))
    simp only [List.length_cons, List.length_nil] at h2
    simp only [clmB, List.flatMap_cons, List.length_append, List.length_cons] at h1 ⊢
    omega
theorem conB_len {h : Int} {s : Sg} {hx tx : List Xr} (hw : Wr h s hx tx) : (conB h s).length ≤ 100000 := by
  have j1 := jn_len [s.srv, s.off, (s.data.length : Int)] (smalls_cons hw.srv (smalls_cons hw.off (smalls_cons (by have := hw.data; omega) smalls_nil)))
  have j2 := jn_len [s.chk, s.rep] (smalls_cons hw.chk (smalls_cons hw.rep smalls_nil))
  have j3 := jn_len [s.rep, s.chk, s.upp, s.low, (s.clm.length : Int)] (smalls_cons hw.rep (smalls_cons hw.chk (smalls_cons (by have := hw.upp; omega) (smalls_cons (by have := hw.low; omega) (smalls_cons (by have := hw.clm; omega) smalls_nil)))))
  have j4 := jn_len [s.rep] (smalls_cons hw.rep smalls_nil)
  have j5 := clmB_len s.low s.clm hw.cls hw.low.1
  have d := hw.data
  have e := hw.clm
  simp only [List.length_cons, List.length_nil] at j1 j2 j3 j4
  unfold conB
  split
  · unfold blkB
    simp only [List.length_append]
    split
    · omega
    · simp only [List.length_nil]; omega
  · split
    · unfold repB; rw [List.length_append]; omega
    · split
      · omega
      · split <;> simp

set_option maxRecDepth 100000 in
set_option maxHeartbeats 8000000 in
theorem form_1 (s : Sg) (ah at' ad ac : Option Addr) (ch ct cd cc : Nat) (hx tx : List Xr) (w : World) (hs : SIn w s (.slice ah hx.length ch) (.slice at' tx.length ct) (.slice ad s.data.length cd) (.slice ac s.clm.length cc) hx tx) (hw : Wr 1 s hx tx) :
    Calls Tryd.prog 42 #[.agg (svC s (.slice ah hx.length ch) (.slice at' tx.length ct) (.slice ad s.data.length cd) (.slice ac s.clm.length cc)), .int .u8 1] w (FormP (layB 1 s) w) := by
  obtain ⟨i0, hi, hz0, hz1, hz2⟩ := info_parts Tryd.info_u8
  have HS : Hid (SIn w s (.slice ah hx.length ch) (.slice at' tx.length ct) (.slice ad s.data.length cd) (.slice ac s.clm.length cc) hx tx) := hs
  have HW : Hid (Wr 1 s hx tx) := hw
  have hty := hw.typ
  have hhl := hw.headL
  have htl := hw.tailL
  have hmod : s.typ % 256 = s.typ := by omega
  have HSM : Hid (Smalls [s.org, s.num]) := smalls_cons hw.org (smalls_cons hw.num smalls_nil)
  have hj1 := jn_len _ HSM.out
  simp only [List.length_cons, List.length_nil] at hj1
  have hor := or16 hx.length tx.length hhl htl
  have hx1 := encXs_len hx hw.head
  have hx2 := encXs_len tx hw.tail
  clear hs hw
  go_enter Tryd.func42, Tryd.ntmps42
  go_wp2_with fail
  have hown0 : (((w.alloc (svO s (.slice ah hx.length ch) (.slice at' tx.length ct) (.slice ad s.data.length cd) (.slice ac s.clm.length cc))).alloc (.cells #[.int .u8 s.typ] 5)).alloc (.cells #[.int .i64 s.org, .int .i64 s.num] 3)).ownsRow w.heap.size 5 1 (.slice (some ⟨w.heap.size + 1, 0, none⟩) 1 1) 1 [.int .u8 s.typ] := by
    have := World.ownsRow_lit (base := w.heap.size) (e := 5) (size := 1) (w.alloc (svO s (.slice ah hx.length ch) (.slice at' tx.length ct) (.slice ad s.data.length cd) (.slice ac s.clm.length cc))) #[.int .u8 s.typ] 1 (by simp) (by unfold maxLen; omega) rfl
    simp only [World.size_alloc] at this
    exact this.alloc _
  have hb1 : Blk .i64 (((w.alloc (svO s (.slice ah hx.length ch) (.slice at' tx.length ct) (.slice ad s.data.length cd) (.slice ac s.clm.length cc))).alloc (.cells #[.int .u8 s.typ] 5)).alloc (.cells #[.int .i64 s.org, .int .i64 s.num] 3)) (w.heap.size + 1 + 1) 3 [s.org, s.num] := by
    have := heap_alloc_new' ((w.alloc (svO s (.slice ah hx.length ch) (.slice at' tx.length ct) (.slice ad s.data.length cd) (.slice ac s.clm.length cc))).alloc (.cells #[.int .u8 s.typ] 5)) (.cells #[.int .i64 s.org, .int .i64 s.num] 3)
    simp only [World.size_alloc] at this
    exact this
  have hbx : (((w.alloc (svO s (.slice ah hx.length ch) (.slice at' tx.length ct) (.slice ad s.data.length cd) (.slice ac s.clm.length cc))).alloc (.cells #[.int .u8 s.typ] 5)).alloc (.cells #[.int .i64 s.org, .int .i64 s.num] 3)).heap[w.heap.size]? = some (svO s (.slice ah hx.length ch) (.slice at' tx.length ct) (.slice ad s.data.length cd) (.slice ac s.clm.length cc)) := by
    rw [Below.heap_alloc _ _ _ (by simp; omega), Below.heap_alloc _ _ _ (by simp)]; exact heap_alloc_new' _ _
  have hbel0 : Below w.heap.size w (((w.alloc (svO s (.slice ah hx.length ch) (.slice at' tx.length ct) (.slice ad s.data.length cd) (.slice ac s.clm.length cc))).alloc (.cells #[.int .u8 s.typ] 5)).alloc (.cells #[.int .i64 s.org, .int .i64 s.num] 3)) := (((Below.refl _ _).alloc (Nat.le_refl _) _).alloc (by simp) _).alloc (by simp; omega) _
  refine (putNumbers_any _ 1 _ w.heap.size (w.heap.size + 1 + 1) [s.org, s.num] _ HSM.out (by simp) hown0 (by simp; omega) (by omega) hb1).mono ?_
  rintro e w3 ⟨v1, rfl, hown1, hgr1⟩
  have hbx3 := hgr1.keeps hown0 hbx (by decide)
  generalize hJ : jn [s.org, s.num] = J at *
  have HJ : Hid (jn [s.org, s.num] = J) := hJ
  clear hJ
  have HO1 : Hid (w3.ownsRow w.heap.size 5 1 v1 (1 + J.length) ((s.typ :: J).map (Value.int .u8))) := hown1
  have HX3 : Hid (w3.heap[w.heap.size]? = some (svO s (.slice ah hx.length ch) (.slice at' tx.length ct) (.slice ad s.data.length cd) (.slice ac s.clm.length cc))) := hbx3
  have HB3 : Hid (Below w.heap.size w w3) := hbel0.trans (hgr1.base hown0 (by simp; omega))
  have q3 := cell_of_row w3 w.heap.size 3 _ _ _ hbx3
  have q4 := cell_of_row w3 w.heap.size 4 _ _ _ hbx3
  simp only [List.getElem?_toArray, List.getElem?_cons_succ, List.getElem?_cons_zero] at q3 q4
  have hs3 : w.heap.size ≤ w3.heap.size := HB3.out.size
  clear hown0 hb1 hbx hbel0 hbx3 hgr1 hown1
  go_wp2_with (at_builtin; refine append_at _ rfl _ _ 26 rfl w.heap.size 5 i0 (.int .u8 0) 1 Tryd.underlying26 hi hz0 hz1 hz2 rfl _ _ _ rfl (HO1.out.alloc _) .u8 (some ⟨w3.heap.size, 0, none⟩) 1 1 [16 * (hx.length : Int) + tx.length] rfl (fun h => by cases h) rfl ((show Blk .u8 (w3.alloc (.cells #[.int .u8 (16 * (hx.length : Int) + tx.length)] 5)) w3.heap.size 5 [16 * (hx.length : Int) + tx.length] from heap_alloc_new' _ _).lies 1) (by unfold maxLen; omega) (by omega) (by simp; omega) ?_)

  intro v2 w4 hown2 hgr2 hst2
  have hg34 : Grew w3 w4 v1 v2 := (Grew.below ((Below.refl _ _).alloc (Nat.le_refl _) _)).trans ⟨hgr2, by simpa using hst2⟩
  have hbx4 := hg34.keeps HO1.out HX3.out (by decide)
  generalize hP : s.typ :: (J ++ [16 * (hx.length : Int) + tx.length]) = P
  have HP : Hid (s.typ :: (J ++ [16 * (hx.length : Int) + tx.length]) = P) := hP
  have hPl : P.length ≤ 100 := by rw [← hP]; simp; omega
  clear hP
  have HO2 : Hid (w4.ownsRow w.heap.size 5 1 v2 P.length (P.map (Value.int .u8))) := by
    unfold Hid; rw [← HP.out]; simpa [Nat.add_comm, Nat.add_left_comm, Nat.add_assoc] using hown2
  have HX4 : Hid (w4.heap[w.heap.size]? = some (svO s (.slice ah hx.length ch) (.slice at' tx.length ct) (.slice ad s.data.length cd) (.slice ac s.clm.length cc))) := hbx4
  have HB4 : Hid (Below w.heap.size w w4) := HB3.out.trans (hg34.base HO1.out hs3)
  have hs4 : w.heap.size ≤ w4.heap.size := HB4.out.size
  have r3 := cell_of_row w4 w.heap.size 3 _ _ _ hbx4
  simp only [List.getElem?_toArray, List.getElem?_cons_succ, List.getElem?_cons_zero] at r3
  clear q3 q4 hbx4 hg34 hgr2 hst2 hown2 HO1 HX3 HB3 hor
  go_wp2_with fail
  refine (putExts_any w v2 P.length _ w.heap.size _ hx w4 HS.out.head HW.out.head hhl HB4.out hs4 (Nat.le_refl _) HO2.out (by omega)).mono ?_
  rintro e w5 ⟨v3, rfl, hown3, hgr3⟩
  have hbx5 := hgr3.keeps HO2.out HX4.out (by decide)
  generalize hQ : P ++ encXs (hx.map Xr.ex) = Q
  have HQ : Hid (P ++ encXs (hx.map Xr.ex) = Q) := hQ
  have hQl : Q.length ≤ 10000 := by rw [← hQ, List.length_append]; omega
  clear hQ
  have HO3 : Hid (w5.ownsRow w.heap.size 5 1 v3 Q.length (Q.map (Value.int .u8))) := by
    unfold Hid; rw [← HQ.out]; exact own_app hown3
  have HX5 : Hid (w5.heap[w.heap.size]? = some (svO s (.slice ah hx.length ch) (.slice at' tx.length ct) (.slice ad s.data.length cd) (.slice ac s.clm.length cc))) := hbx5
  have HB5 : Hid (Below w.heap.size w w5) := HB4.out.trans (hgr3.base HO2.out hs4)
  have hs5 : w.heap.size ≤ w5.heap.size := HB5.out.size
  have hcx := fun j => cell_of_row w5 w.heap.size j _ _ _ hbx5
  have q0 := hcx 0
  have q1 := hcx 1
  have q2 := hcx 2
  have q3 := hcx 3
  have q4 := hcx 4
  have q5 := hcx 5
  have q6 := hcx 6
  have q7 := hcx 7
  have q8 := hcx 8
  have q9 := hcx 9
  have q10 := hcx 10
  have q11 := hcx 11
  have q12 := hcx 12
  have q13 := hcx 13
  simp only [List.getElem?_toArray, List.getElem?_cons_succ, List.getElem?_cons_zero] at q0 q1 q2 q3 q4 q5 q6 q7 q8 q9 q10 q11 q12 q13
  clear hcx hbx5 hgr3 hown3 HO2 HX4 HB4 r3
  go_wp2_with fail
  refine (any_any _ _ _).mono ?_
  rintro e w' ⟨rfl, rfl⟩
  rw [show anyB 1 2 = false from by decide]
  go_wp2_with fail
  refine (any_any _ _ _).mono ?_
  rintro e w' ⟨rfl, rfl⟩
  rw [show anyB 1 8 = false from by decide]
  go_wp2_with fail
  refine (any_any _ _ _).mono ?_
  rintro e w' ⟨rfl, rfl⟩
  rw [show anyB 1 16 = false from by decide]
  go_wp2_with fail
  refine (any_any _ _ _).mono ?_
  rintro e w' ⟨rfl, rfl⟩
  rw [show anyB 1 32 = false from by decide]
  clear q0 q1 q2 q3 q5 q6 q7 q8 q9 q10 q11 q12 q13
  go_wp2_with fail
  refine (putExts_any w v3 Q.length _ w.heap.size _ tx w5 HS.out.tail HW.out.tail htl HB5.out hs5 (Nat.le_refl _) HO3.out (by omega)).mono ?_
  rintro e w7 ⟨v5, rfl, hown5, hgr5⟩
  have HO7 : Hid (w7.ownsRow w.heap.size 5 1 v5 (layB 1 s).length ((layB 1 s).map (Value.int .u8))) := by
    have he : layB 1 s = Q ++ encXs (tx.map Xr.ex) := by
      rw [← HQ.out, ← HP.out, ← HJ.out]
      simp [layB, conB, HS.out.headEq, HS.out.tailEq]
    unfold Hid; rw [he]; exact own_app hown5
  have HB7 : Hid (Below w.heap.size w w7) := HB5.out.trans (hgr5.base HO3.out hs5)
  clear hown5 hgr5
  go_wp2
  go_ret
  exact ⟨v5, rfl, HO7.out, HB7.out⟩

set_option maxRecDepth 100000 in
set_option maxHeartbeats 8000000 in
theorem form_3 (s : Sg) (ah at' ad ac : Option Addr) (ch ct cd cc : Nat) (hx tx : List Xr) (w : World) (hs : SIn w s (.slice ah hx.length ch) (.slice at' tx.length ct) (.slice ad s.data.length cd) (.slice ac s.clm.length cc) hx tx) (hw : Wr 3 s hx tx) :
    Calls Tryd.prog 42 #[.agg (svC s (.slice ah hx.length ch) (.slice at' tx.length ct) (.slice ad s.data.length cd) (.slice ac s.clm.length cc)), .int .u8 3] w (FormP (layB 3 s) w) := by
  obtain ⟨i0, hi, hz0, hz1, hz2⟩ := info_parts Tryd.info_u8
  have HS : Hid (SIn w s (.slice ah hx.length ch) (.slice at' tx.length ct) (.slice ad s.data.length cd) (.slice ac s.clm.length cc) hx tx) := hs
  have HW : Hid (Wr 3 s hx tx) := hw
  have hty := hw.typ
  have hhl := hw.headL
  have htl := hw.tailL
  have hmod : s.typ % 256 = s.typ := by omega
  have HSM : Hid (Smalls [s.org, s.num]) := smalls_cons hw.org (smalls_cons hw.num smalls_nil)
  have hj1 := jn_len _ HSM.out
  simp only [List.length_cons, List.length_nil] at hj1
  have hor := or16 hx.length tx.length hhl htl
  have hx1 := encXs_len hx hw.head
  have hx2 := encXs_len tx hw.tail
  clear hs hw
  go_enter Tryd.func42, Tryd.ntmps42
  go_wp2_with fail
  have hown0 : (((w.alloc (svO s (.slice ah hx.length ch) (.slice at' tx.length ct) (.slice ad s.data.length cd) (.slice ac s.clm.length cc))).alloc (.cells #[.int .u8 s.typ] 5)).alloc (.cells #[.int .i64 s.org, .int .i64 s.num] 3)).ownsRow w.heap.size 5 1 (.slice (some ⟨w.heap.size + 1, 0, none⟩) 1 1) 1 [.int .u8 s.typ] := by
    have := World.ownsRow_lit (base := w.heap.size) (e := 5) (size := 1) (w.alloc (svO s (.slice ah hx.length ch) (.slice at' tx.length ct) (.slice ad s.data.length cd) (.slice ac s.clm.length cc))) #[.int .u8 s.typ] 1 (by simp) (by unfold maxLen; omega) rfl
    simp only [World.size_alloc] at this
    exact this.alloc _
  have hb1 : Blk .i64 (((w.alloc (svO s (.slice ah hx.length ch) (.slice at' tx.length ct) (.slice ad s.data.length cd) (.slice ac s.clm.length cc))).alloc (.cells #[.int .u8 s.typ] 5)).alloc (.cells #[.int .i64 s.org, .int .i64 s.num] 3)) (w.heap.size + 1 + 1) 3 [s.org, s.num] := by
    have := heap_alloc_new' ((w.alloc (svO s (.slice ah hx.length ch) (.slice at' tx.length ct) (.slice ad s.data.length cd) (.slice ac s.clm.length cc))).alloc (.cells #[.int .u8 s.typ] 5)) (.cells #[.int .i64 s.org, .int .i64 s.num] 3)
    simp only [World.size_alloc] at this
    exact this
  have hbx : (((w.alloc (svO s (.slice ah hx.length ch) (.slice at' tx.length ct) (.slice ad s.data.length cd) (.slice ac s.clm.length cc))).alloc (.cells #[.int .u8 s.typ] 5)).alloc (.cells #[.int .i64 s.org, .int .i64 s.num] 3)).heap[w.heap.size]? = some (svO s (.slice ah hx.length ch) (.slice at' tx.length ct) (.slice ad s.data.length cd) (.slice ac s.clm.length cc)) := by
    rw [Below.heap_alloc _ _ _ (by simp; omega), Below.heap_alloc _ _ _ (by simp)]; exact heap_alloc_new' _ _
  have hbel0 : Below w.heap.size w (((w.alloc (svO s (.slice ah hx.length ch) (.slice at' tx.length ct) (.slice ad s.data.length cd) (.slice ac s.clm.length cc))).alloc (.cells #[.int .u8 s.typ] 5)).alloc (.cells #[.int .i64 s.org, .int .i64 s.num] 3)) := (((Below.refl _ _).alloc (Nat.le_refl _) _).alloc (by simp) _).alloc (by simp; omega) _
  refine (putNumbers_any _ 1 _ w.heap.size (w.heap.size + 1 + 1) [s.org, s.num] _ HSM.out (by simp) hown0 (by simp; omega) (by omega) hb1).mono ?_
  rintro e w3 ⟨v1, rfl, hown1, hgr1⟩
  have hbx3 := hgr1.keeps hown0 hbx (by decide)
  generalize hJ : jn [s.org, s.num] = J at *
  have HJ : Hid (jn [s.org, s.num] = J) := hJ
  clear hJ
  have HO1 : Hid (w3.ownsRow w.heap.size 5 1 v1 (1 + J.length) ((s.typ :: J).map (Value.int .u8))) := hown1
  have HX3 : Hid (w3.heap[w.heap.size]? = some (svO s (.slice ah hx.length ch) (.slice at' tx.length ct) (.slice ad s.data.length cd) (.slice ac s.clm.length cc))) := hbx3
  have HB3 : Hid (Below w.heap.size w w3) := hbel0.trans (hgr1.base hown0 (by simp; omega))
  have q3 := cell_of_row w3 w.heap.size 3 _ _ _ hbx3
  have q4 := cell_of_row w3 w.heap.size 4 _ _ _ hbx3
  simp only [List.getElem?_toArray, List.getElem?_cons_succ, List.getElem?_cons_zero] at q3 q4
  have hs3 : w.heap.size ≤ w3.heap.size := HB3.out.size
  clear hown0 hb1 hbx hbel0 hbx3 hgr1 hown1
  go_wp2_with (at_builtin; refine append_at _ rfl _ _ 26 rfl w.heap.size 5 i0 (.int .u8 0) 1 Tryd.underlying26 hi hz0 hz1 hz2 rfl _ _ _ rfl (HO1.out.alloc _) .u8 (some ⟨w3.heap.size, 0, none⟩) 1 1 [16 * (hx.length : Int) + tx.length] rfl (fun h => by cases h) rfl ((show Blk .u8 (w3.alloc (.cells #[.int .u8 (16 * (hx.length : Int) + tx.length)] 5)) w3.heap.size 5 [16 * (hx.length : Int) + tx.length] from heap_alloc_new' _ _).lies 1) (by unfold maxLen; omega) (by omega) (by simp; omega) ?_)

  intro v2 w4 hown2 hgr2 hst2
  have hg34 : Grew w3 w4 v1 v2 := (Grew.below ((Below.refl _ _).alloc (Nat.le_refl _) _)).trans ⟨hgr2, by simpa using hst2⟩
  have hbx4 := hg34.keeps HO1.out HX3.out (by decide)
  generalize hP : s.typ :: (J ++ [16 * (hx.length : Int) + tx.length]) = P
  have HP : Hid (s.typ :: (J ++ [16 * (hx.length : Int) + tx.length]) = P) := hP
  have hPl : P.length ≤ 100 := by rw [← hP]; simp; omega
  clear hP
  have HO2 : Hid (w4.ownsRow w.heap.size 5 1 v2 P.length (P.map (Value.int .u8))) := by
    unfold Hid; rw [← HP.out]; simpa [Nat.add_comm, Nat.add_left_comm, Nat.add_assoc] using hown2
  have HX4 : Hid (w4.heap[w.heap.size]? = some (svO s (.slice ah hx.length ch) (.slice at' tx.length ct) (.slice ad s.data.length cd) (.slice ac s.clm.length cc))) := hbx4
  have HB4 : Hid (Below w.heap.size w w4) := HB3.out.trans (hg34.base HO1.out hs3)
  have hs4 : w.heap.size ≤ w4.heap.size := HB4.out.size
  have r3 := cell_of_row w4 w.heap.size 3 _ _ _ hbx4
  simp only [List.getElem?_toArray, List.getElem?_cons_succ, List.getElem?_cons_zero] at r3
  clear q3 q4 hbx4 hg34 hgr2 hst2 hown2 HO1 HX3 HB3 hor
  go_wp2_with fail
  refine (putExts_any w v2 P.length _ w.heap.size _ hx w4 HS.out.head HW.out.head hhl HB4.out hs4 (Nat.le_refl _) HO2.out (by omega)).mono ?_
  rintro e w5 ⟨v3, rfl, hown3, hgr3⟩
  have hbx5 := hgr3.keeps HO2.out HX4.out (by decide)
  generalize hQ : P ++ encXs (hx.map Xr.ex) = Q
  have HQ : Hid (P ++ encXs (hx.map Xr.ex) = Q) := hQ
  have hQl : Q.length ≤ 10000 := by rw [← hQ, List.length_append]; omega
  clear hQ
  have HO3 : Hid (w5.ownsRow w.heap.size 5 1 v3 Q.length (Q.map (Value.int .u8))) := by
    unfold Hid; rw [← HQ.out]; exact own_app hown3
  have HX5 : Hid (w5.heap[w.heap.size]? = some (svO s (.slice ah hx.length ch) (.slice at' tx.length ct) (.slice ad s.data.length cd) (.slice ac s.clm.length cc))) := hbx5
  have HB5 : Hid (Below w.heap.size w w5) := HB4.out.trans (hgr3.base HO2.out hs4)
  have hs5 : w.heap.size ≤ w5.heap.size := HB5.out.size
  have hcx := fun j => cell_of_row w5 w.heap.size j _ _ _ hbx5
  have q0 := hcx 0
  have q1 := hcx 1
  have q2 := hcx 2
  have q3 := hcx 3
  have q4 := hcx 4
  have q5 := hcx 5
  have q6 := hcx 6
  have q7 := hcx 7
  have q8 := hcx 8
  have q9 := hcx 9
  have q10 := hcx 10
  have q11 := hcx 11
  have q12 := hcx 12
  have q13 := hcx 13
  simp only [List.getElem?_toArray, List.getElem?_cons_succ, List.getElem?_cons_zero] at q0 q1 q2 q3 q4 q5 q6 q7 q8 q9 q10 q11 q12 q13
  clear hcx hbx5 hgr3 hown3 HO2 HX4 HB4 r3
  go_wp2_with fail
  refine (any_any _ _ _).mono ?_
  rintro e w' ⟨rfl, rfl⟩
  rw [show anyB 3 2 = true from by decide]
  go_wp2_with fail
  refine (putBlock3_any w v3 Q.length _ w.heap.size s _ _ _ ad cd w5 HS.out.data HW.out.srv HW.out.off HW.out.data HB5.out hs5 (Nat.le_refl _) HO3.out (by omega)).mono ?_
  rintro e w6 ⟨v4, rfl, hown4, hgr4⟩
  have hg56 : Grew w5 w6 v3 v4 := hgr4
  have hbx6 := hg56.keeps HO3.out HX5.out (by decide)
  generalize hR : Q ++ blkB 3 s = R
  have HR : Hid (Q ++ blkB 3 s = R) := hR
  have hRl : R.length ≤ 200000 := by
    have := conB_len HW.out
    rw [show conB 3 s = blkB 3 s from by simp [conB]] at this
    rw [← hR, List.length_append]; omega
  clear hR
  have HO4 : Hid (w6.ownsRow w.heap.size 5 1 v4 R.length (R.map (Value.int .u8))) := by
    unfold Hid; rw [← HR.out]; exact own_app hown4
  have HX6 : Hid (w6.heap[w.heap.size]? = some (svO s (.slice ah hx.length ch) (.slice at' tx.length ct) (.slice ad s.data.length cd) (.slice ac s.clm.length cc))) := hbx6
  have HB6 : Hid (Below w.heap.size w w6) := HB5.out.trans (hg56.base HO3.out hs5)
  have hs6 : w.heap.size ≤ w6.heap.size := HB6.out.size
  have t4 := cell_of_row w6 w.heap.size 4 _ _ _ hbx6
  simp only [List.getElem?_toArray, List.getElem?_cons_succ, List.getElem?_cons_zero] at t4
  clear hbx6 hg56 hown4 hgr4 HO3 HX5 HB5 q0 q1 q2 q3 q4 q5 q6 q7 q8 q9 q10 q11 q12 q13
  go_wp2_with fail
  refine (putExts_any w v4 R.length _ w.heap.size _ tx w6 HS.out.tail HW.out.tail htl HB6.out hs6 (Nat.le_refl _) HO4.out (by omega)).mono ?_
  rintro e w7 ⟨v5, rfl, hown5, hgr5⟩
  have HO7 : Hid (w7.ownsRow w.heap.size 5 1 v5 (layB 3 s).length ((layB 3 s).map (Value.int .u8))) := by
    have he : layB 3 s = R ++ encXs (tx.map Xr.ex) := by
      rw [← HR.out, ← HQ.out, ← HP.out, ← HJ.out]
      simp [layB, conB, HS.out.headEq, HS.out.tailEq]
    unfold Hid; rw [he]; exact own_app hown5
  have HB7 : Hid (Below w.heap.size w w7) := HB6.out.trans (hgr5.base HO4.out hs6)
  clear hown5 hgr5
  go_wp2
  go_ret
  exact ⟨v5, rfl, HO7.out, HB7.out⟩

set_option maxRecDepth 100000 in
set_option maxHeartbeats 8000000 in
theorem form_7 (s : Sg) (ah at' ad ac : Option Addr) (ch ct cd cc : Nat) (hx tx : List Xr) (w : World) (hs : SIn w s (.slice ah hx.length ch) (.slice at' tx.length ct) (.slice ad s.data.length cd) (.slice ac s.clm.length cc) hx tx) (hw : Wr 7 s hx tx) :
    Calls Tryd.prog 42 #[.agg (svC s (.slice ah hx.length ch) (.slice at' tx.length ct) (.slice ad s.data.length cd) (.slice ac s.clm.length cc)), .int .u8 7] w (FormP (layB 7 s) w) := by
  obtain ⟨i0, hi, hz0, hz1, hz2⟩ := info_parts Tryd.info_u8
  have HS : Hid (SIn w s (.slice ah hx.length ch) (.slice at' tx.length ct) (.slice ad s.data.length cd) (.slice ac s.clm.length cc) hx tx) := hs
  have HW : Hid (Wr 7 s hx tx) := hw
  have hty := hw.typ
  have hhl := hw.headL
  have htl := hw.tailL
  have hmod : s.typ % 256 = s.typ := by omega
  have HSM : Hid (Smalls [s.org, s.num]) := smalls_cons hw.org (smalls_cons hw.num smalls_nil)
  have hj1 := jn_len _ HSM.out
  simp only [List.length_cons, List.length_nil] at hj1
  have hor := or16 hx.length tx.length hhl htl
  have hx1 := encXs_len hx hw.head
  have hx2 := encXs_len tx hw.tail
  clear hs hw
  go_enter Tryd.func42, Tryd.ntmps42
  go_wp2_with fail
  have hown0 : (((w.alloc (svO s (.slice ah hx.length ch) (.slice at' tx.length ct) (.slice ad s.data.length cd) (.slice ac s.clm.length cc))).alloc (.cells #[.int .u8 s.typ] 5)).alloc (.cells #[.int .i64 s.org, .int .i64 s.num] 3)).ownsRow w.heap.size 5 1 (.slice (some ⟨w.heap.size + 1, 0, none⟩) 1 1) 1 [.int .u8 s.typ] := by
    have := World.ownsRow_lit (base := w.heap.size) (e := 5) (size := 1) (w.alloc (svO s (.slice ah hx.length ch) (.slice at' tx.length ct) (.slice ad s.data.length cd) (.slice ac s.clm.length cc))) #[.int .u8 s.typ] 1 (by simp) (by unfold maxLen; omega) rfl
    simp only [World.size_alloc] at this
    exact this.alloc _
  have hb1 : Blk .i64 (((w.alloc (svO s (.slice ah hx.length ch) (.slice at' tx.length ct) (.slice ad s.data.length cd) (.slice ac s.clm.length cc))).alloc (.cells #[.int .u8 s.typ] 5)).alloc (.cells #[.int .i64 s.org, .int .i64 s.num] 3)) (w.heap.size + 1 + 1) 3 [s.org, s.num] := by
    have := heap_alloc_new' ((w.alloc (svO s (.slice ah hx.length ch) (.slice at' tx.length ct) (.slice ad s.data.length cd) (.slice ac s.clm.length cc))).alloc (.cells #[.int .u8 s.typ] 5)) (.cells #[.int .i64 s.org, .int .i64 s.num] 3)
    simp only [World.size_alloc] at this
    exact this
  have hbx : (((w.alloc (svO s (.slice ah hx.length ch) (.slice at' tx.length ct) (.slice ad s.data.length cd) (.slice ac s.clm.length cc))).alloc (.cells #[.int .u8 s.typ] 5)).alloc (.cells #[.int .i64 s.org, .int .i64 s.num] 3)).heap[w.heap.size]? = some (svO s (.slice ah hx.length ch) (.slice at' tx.length ct) (.slice ad s.data.length cd) (.slice ac s.clm.length cc)) := by
    rw [Below.heap_alloc _ _ _ (by simp; omega), Below.heap_alloc _ _ _ (by simp)]; exact heap_alloc_new' _ _
  have hbel0 : Below w.heap.size w (((w.alloc (svO s (.slice ah hx.length ch) (.slice at' tx.length ct) (.slice ad s.data.length cd) (.slice ac s.clm.length cc))).alloc (.cells #[.int .u8 s.typ] 5)).alloc (.cells #[.int .i64 s.org, .int .i64 s.num] 3)) := (((Below.refl _ _).alloc (Nat.le_refl _) _).alloc (by simp) _).alloc (by simp; omega) _
  refine (putNumbers_any _ 1 _ w.heap.size (w.heap.size + 1 + 1) [s.org, s.num] _ HSM.out (by simp) hown0 (by simp; omega) (by omega) hb1).mono ?_
  rintro e w3 ⟨v1, rfl, hown1, hgr1⟩
  have hbx3 := hgr1.keeps hown0 hbx (by decide)
  generalize hJ : jn [s.org, s.num] = J at *
  have HJ : Hid (jn [s.org, s.num] = J) := hJ
  clear hJ
  have HO1 : Hid (w3.ownsRow w.heap.size 5 1 v1 (1 + J.length) ((s.typ :: J).map (Value.int .u8))) := hown1
  have HX3 : Hid (w3.heap[w.heap.size]? = some (svO s (.slice ah hx.length ch) (.slice at' tx.length ct) (.slice ad s.data.length cd) (.slice ac s.clm.length cc))) := hbx3
  have HB3 : Hid (Below w.heap.size w w3) := hbel0.trans (hgr1.base hown0 (by simp; omega))
  have q3 := cell_of_row w3 w.heap.size 3 _ _ _ hbx3
  have q4 := cell_of_row w3 w.heap.size 4 _ _ _ hbx3
  simp only [List.getElem?_toArray, List.getElem?_cons_succ, List.getElem?_cons_zero] at q3 q4
  have hs3 : w.heap.size ≤ w3.heap.size := HB3.out.size
  clear hown0 hb1 hbx hbel0 hbx3 hgr1 hown1
  go_wp2_with (at_builtin; refine append_at _ rfl _ _ 26 rfl w.heap.size 5 i0 (.int .u8 0) 1 Tryd.underlying26 hi hz0 hz1 hz2 rfl _ _ _ rfl (HO1.out.alloc _) .u8 (some ⟨w3.heap.size, 0, none⟩) 1 1 [16 * (hx.length : Int) + tx.length] rfl (fun h => by cases h) rfl ((show Blk .u8 (w3.alloc (.cells #[.int .u8 (16 * (hx.length : Int) + tx.length)] 5)) w3.heap.size 5 [16 * (hx.length : Int) + tx.length] from heap_alloc_new' _ _).lies 1) (by unfold maxLen; omega) (by omega) (by simp; omega) ?_)

  intro v2 w4 hown2 hgr2 hst2
  have hg34 : Grew w3 w4 v1 v2 := (Grew.below ((Below.refl _ _).alloc (Nat.le_refl _) _)).trans ⟨hgr2, by simpa using hst2⟩
  have hbx4 := hg34.keeps HO1.out HX3.out (by decide)
  generalize hP : s.typ :: (J ++ [16 * (hx.length : Int) + tx.length]) = P
  have HP : Hid (s.typ :: (J ++ [16 * (hx.length : Int) + tx.length]) = P) := hP
  have hPl : P.length ≤ 100 := by rw [← hP]; simp; omega
  clear hP
  have HO2 : Hid (w4.ownsRow w.heap.size 5 1 v2 P.length (P.map (Value.int .u8))) := by
    unfold Hid; rw [← HP.out]; simpa [Nat.add_comm, Nat.add_left_comm, Nat.add_assoc] using hown2
  have HX4 : Hid (w4.heap[w.heap.size]? = some (svO s (.slice ah hx.length ch) (.slice at' tx.length ct) (.slice ad s.data.length cd) (.slice ac s.clm.length cc))) := hbx4
  have HB4 : Hid (Below w.heap.size w w4) := HB3.out.trans (hg34.base HO1.out hs3)
  have hs4 : w.heap.size ≤ w4.heap.size := HB4.out.size
  have r3 := cell_of_row w4 w.heap.size 3 _ _ _ hbx4
  simp only [List.getElem?_toArray, List.getElem?_cons_succ, List.getElem?_cons_zero] at r3
  clear q3 q4 hbx4 hg34 hgr2 hst2 hown2 HO1 HX3 HB3 hor
  go_wp2_with fail
  refine (putExts_any w v2 P.length _ w.heap.size _ hx w4 HS.out.head HW.out.head hhl HB4.out hs4 (Nat.le_refl _) HO2.out (by omega)).mono ?_
  rintro e w5 ⟨v3, rfl, hown3, hgr3⟩
  have hbx5 := hgr3.keeps HO2.out HX4.out (by decide)
  generalize hQ : P ++ encXs (hx.map Xr.ex) = Q
  have HQ : Hid (P ++ encXs (hx.map Xr.ex) = Q) := hQ
  have hQl : Q.length ≤ 10000 := by rw [← hQ, List.length_append]; omega
  clear hQ
  have HO3 : Hid (w5.ownsRow w.heap.size 5 1 v3 Q.length (Q.map (Value.int .u8))) := by
    unfold Hid; rw [← HQ.out]; exact own_app hown3
  have HX5 : Hid (w5.heap[w.heap.size]? = some (svO s (.slice ah hx.length ch) (.slice at' tx.length ct) (.slice ad s.data.length cd) (.slice ac s.clm.length cc))) := hbx5
  have HB5 : Hid (Below w.heap.size w w5) := HB4.out.trans (hgr3.base HO2.out hs4)
  have hs5 : w.heap.size ≤ w5.heap.size := HB5.out.size
  have hcx := fun j => cell_of_row w5 w.heap.size j _ _ _ hbx5
  have q0 := hcx 0
  have q1 := hcx 1
  have q2 := hcx 2
  have q3 := hcx 3
  have q4 := hcx 4
  have q5 := hcx 5
  have q6 := hcx 6
  have q7 := hcx 7
  have q8 := hcx 8
  have q9 := hcx 9
  have q10 := hcx 10
  have q11 := hcx 11
  have q12 := hcx 12
  have q13 := hcx 13
  simp only [List.getElem?_toArray, List.getElem?_cons_succ, List.getElem?_cons_zero] at q0 q1 q2 q3 q4 q5 q6 q7 q8 q9 q10 q11 q12 q13
  clear hcx hbx5 hgr3 hown3 HO2 HX4 HB4 r3
  go_wp2_with fail
  refine (any_any _ _ _).mono ?_
  rintro e w' ⟨rfl, rfl⟩
  rw [show anyB 7 2 = true from by decide]
  go_wp2_with fail
  refine (putBlock7_any w v3 Q.length _ w.heap.size s _ _ _ ad cd w5 HS.out.data HW.out.srv HW.out.off HW.out.chk HW.out.rep HW.out.data HB5.out hs5 (Nat.le_refl _) HO3.out (by omega)).mono ?_
  rintro e w6 ⟨v4, rfl, hown4, hgr4⟩
  have hg56 : Grew w5 w6 v3 v4 := hgr4
  have hbx6 := hg56.keeps HO3.out HX5.out (by decide)
  generalize hR : Q ++ blkB 7 s = R
  have HR : Hid (Q ++ blkB 7 s = R) := hR
  have hRl : R.length ≤ 200000 := by
    have := conB_len HW.out
    rw [show conB 7 s = blkB 7 s from by simp [conB]] at this
    rw [← hR, List.length_append]; omega
  clear hR
  have HO4 : Hid (w6.ownsRow w.heap.size 5 1 v4 R.length (R.map (Value.int .u8))) := by
    unfold Hid; rw [← HR.out]; exact own_app hown4
  have HX6 : Hid (w6.heap[w.heap.size]? = some (svO s (.slice ah hx.length ch) (.slice at' tx.length ct) (.slice ad s.data.length cd) (.slice ac s.clm.length cc))) := hbx6
  have HB6 : Hid (Below w.heap.size w w6) := HB5.out.trans (hg56.base HO3.out hs5)
  have hs6 : w.heap.size ≤ w6.heap.size := HB6.out.size
  have t4 := cell_of_row w6 w.heap.size 4 _ _ _ hbx6
  simp only [List.getElem?_toArray, List.getElem?_cons_succ, List.getElem?_cons_zero] at t4
  clear hbx6 hg56 hown4 hgr4 HO3 HX5 HB5 q0 q1 q2 q3 q4 q5 q6 q7 q8 q9 q10 q11 q12 q13
  go_wp2_with fail
  refine (putExts_any w v4 R.length _ w.heap.size _ tx w6 HS.out.tail HW.out.tail htl HB6.out hs6 (Nat.le_refl _) HO4.out (by omega)).mono ?_
  rintro e w7 ⟨v5, rfl, hown5, hgr5⟩
  have HO7 : Hid (w7.ownsRow w.heap.size 5 1 v5 (layB 7 s).length ((layB 7 s).map (Value.int .u8))) := by
    have he : layB 7 s = R ++ encXs (tx.map Xr.ex) := by
      rw [← HR.out, ← HQ.out, ← HP.out, ← HJ.out]
      simp [layB, conB, HS.out.headEq, HS.out.tailEq]
    unfold Hid; rw [he]; exact own_app hown5
  have HB7 : Hid (Below w.heap.size w w7) := HB6.out.trans (hgr5.base HO4.out hs6)
  clear hown5 hgr5
  go_wp2
  go_ret
  exact ⟨v5, rfl, HO7.out, HB7.out⟩

set_option maxRecDepth 100000 in
set_option maxHeartbeats 8000000 in
theorem form_9 (s : Sg) (ah at' ad ac : Option Addr) (ch ct cd cc : Nat) (hx tx : List Xr) (w : World) (hs : SIn w s (.slice ah hx.length ch) (.slice at' tx.length ct) (.slice ad s.data.length cd) (.slice ac s.clm.length cc) hx tx) (hw : Wr 9 s hx tx) :
    Calls Tryd.prog 42 #[.agg (svC s (.slice ah hx.length ch) (.slice at' tx.length ct) (.slice ad s.data.length cd) (.slice ac s.clm.length cc)), .int .u8 9] w (FormP (layB 9 s) w) := by
  obtain ⟨i0, hi, hz0, hz1, hz2⟩ := info_parts Tryd.info_u8
  have HS : Hid (SIn w s (.slice ah hx.length ch) (.slice at' tx.length ct) (.slice ad s.data.length cd) (.slice ac s.clm.length cc) hx tx) := hs
  have HW : Hid (Wr 9 s hx tx) := hw
  have hty := hw.typ
  have hhl := hw.headL
  have htl := hw.tailL
  have hmod : s.typ % 256 = s.typ := by omega
  have HSM : Hid (Smalls [s.org, s.num]) := smalls_cons hw.org (smalls_cons hw.num smalls_nil)
  have hj1 := jn_len _ HSM.out
  simp only [List.length_cons, List.length_nil] at hj1
  have hor := or16 hx.length tx.length hhl htl
  have hx1 := encXs_len hx hw.head
  have hx2 := encXs_len tx hw.tail
  clear hs hw
  go_enter Tryd.func42, Tryd.ntmps42
  go_wp2_with fail
  have hown0 : (((w.alloc (svO s (.slice ah hx.length ch) (.slice at' tx.length ct) (.slice ad s.data.length cd) (.slice ac s.clm.length cc))).alloc (.cells #[.int .u8 s.typ] 5)).alloc (.cells #[.int .i64 s.org, .int .i64 s.num] 3)).ownsRow w.heap.size 5 1 (.slice (some ⟨w.heap.size + 1, 0, none⟩) 1 1) 1 [.int .u8 s.typ] := by
    have := World.ownsRow_lit (base := w.heap.size) (e := 5) (size := 1) (w.alloc (svO s (.slice ah hx.length ch) (.slice at' tx.length ct) (.slice ad s.data.length cd) (.slice ac s.clm.length cc))) #[.int .u8 s.typ] 1 (by simp) (by unfold maxLen; omega) rfl
    simp only [World.size_alloc] at this
    exact this.alloc _
  have hb1 : Blk .i64 (((w.alloc (svO s (.slice ah hx.length ch) (.slice at' tx.length ct) (.slice ad s.data.length cd) (.slice ac s.clm.length cc))).alloc (.cells #[.int .u8 s.typ] 5)).alloc (.cells #[.int .i64 s.org, .int .i64 s.num] 3)) (w.heap.size + 1 + 1) 3 [s.org, s.num] := by
    have := heap_alloc_new' ((w.alloc (svO s (.slice ah hx.length ch) (.slice at' tx.length ct) (.slice ad s.data.length cd) (.slice ac s.clm.length cc))).alloc (.cells #[.int .u8 s.typ] 5)) (.cells #[.int .i64 s.org, .int .i64 s.num] 3)
    simp only [World.size_alloc] at this
    exact this
  have hbx : (((w.alloc (svO s (.slice ah hx.length ch) (.slice at' tx.length ct) (.slice ad s.data.length cd) (.slice ac s.clm.length cc))).alloc (.cells #[.int .u8 s.typ] 5)).alloc (.cells #[.int .i64 s.org, .int .i64 s.num] 3)).heap[w.heap.size]? = some (svO s (.slice ah hx.length ch) (.slice at' tx.length ct) (.slice ad s.data.length cd) (.slice ac s.clm.length cc)) := by
    rw [Below.heap_alloc _ _ _ (by simp; omega), Below.heap_alloc _ _ _ (by simp)]; exact heap_alloc_new' _ _
  have hbel0 : Below w.heap.size w (((w.alloc (svO s (.slice ah hx.length ch) (.slice at' tx.length ct) (.slice ad s.data.length cd) (.slice ac s.clm.length cc))).alloc (.cells #[.int .u8 s.typ] 5)).alloc (.cells #[.int .i64 s.org, .int .i64 s.num] 3)) := (((Below.refl _ _).alloc (Nat.le_refl _) _).alloc (by simp) _).alloc (by simp; omega) _
  refine (putNumbers_any _ 1 _ w.heap.size (w.heap.size + 1 + 1) [s.org, s.num] _ HSM.out (by simp) hown0 (by simp; omega) (by omega) hb1).mono ?_
  rintro e w3 ⟨v1, rfl, hown1, hgr1⟩
  have hbx3 := hgr1.keeps hown0 hbx (by decide)
  generalize hJ : jn [s.org, s.num] = J at *
  have HJ : Hid (jn [s.org, s.num] = J) := hJ
  clear hJ
  have HO1 : Hid (w3.ownsRow w.heap.size 5 1 v1 (1 + J.length) ((s.typ :: J).map (Value.int .u8))) := hown1
  have HX3 : Hid (w3.heap[w.heap.size]? = some (svO s (.slice ah hx.length ch) (.slice at' tx.length ct) (.slice ad s.data.length cd) (.slice ac s.clm.length cc))) := hbx3
  have HB3 : Hid (Below w.heap.size w w3) := hbel0.trans (hgr1.base hown0 (by simp; omega))
  have q3 := cell_of_row w3 w.heap.size 3 _ _ _ hbx3
  have q4 := cell_of_row w3 w.heap.size 4 _ _ _ hbx3
  simp only [List.getElem?_toArray, List.getElem?_cons_succ, List.getElem?_cons_zero] at q3 q4
  have hs3 : w.heap.size ≤ w3.heap.size := HB3.out.size
  clear hown0 hb1 hbx hbel0 hbx3 hgr1 hown1
  go_wp2_with (at_builtin; refine append_at _ rfl _ _ 26 rfl w.heap.size 5 i0 (.int .u8 0) 1 Tryd.underlying26 hi hz0 hz1 hz2 rfl _ _ _ rfl (HO1.out.alloc _) .u8 (some ⟨w3.heap.size, 0, none⟩) 1 1 [16 * (hx.length : Int) + tx.length] rfl (fun h => by cases h) rfl ((show Blk .u8 (w3.alloc (.cells #[.int .u8 (16 * (hx.length : Int) + tx.length)] 5)) w3.heap.size 5 [16 * (hx.length : Int) + tx.length] from heap_alloc_new' _ _).lies 1) (by unfold maxLen; omega) (by omega) (by simp; omega) ?_)

  intro v2 w4 hown2 hgr2 hst2
  have hg34 : Grew w3 w4 v1 v2 := (Grew.below ((Below.refl _ _).alloc (Nat.le_refl _) _)).trans ⟨hgr2, by simpa using hst2⟩
  have hbx4 := hg34.keeps HO1.out HX3.out (by decide)
  generalize hP : s.typ :: (J ++ [16 * (hx.length : Int) + tx.length]) = P
  have HP : Hid (s.typ :: (J ++ [16 * (hx.length : Int) + tx.length]) = P) := hP
  have hPl : P.length ≤ 100 := by rw [← hP]; simp; omega
  clear hP
  have HO2 : Hid (w4.ownsRow w.heap.size 5 1 v2 P.length (P.map (Value.int .u8))) := by
    unfold Hid; rw [← HP.out]; simpa [Nat.add_comm, Nat.add_left_comm, Nat.add_assoc] using hown2
  have HX4 : Hid (w4.heap[w.heap.size]? = some (svO s (.slice ah hx.length ch) (.slice at' tx.length ct) (.slice ad s.data.length cd) (.slice ac s.clm.length cc))) := hbx4
  have HB4 : Hid (Below w.heap.size w w4) := HB3.out.trans (hg34.base HO1.out hs3)
  have hs4 : w.heap.size ≤ w4.heap.size := HB4.out.size
  have r3 := cell_of_row w4 w.heap.size 3 _ _ _ hbx4
  simp only [List.getElem?_toArray, List.getElem?_cons_succ, List.getElem?_cons_zero] at r3
  clear q3 q4 hbx4 hg34 hgr2 hst2 hown2 HO1 HX3 HB3 hor
  go_wp2_with fail
  refine (putExts_any w v2 P.length _ w.heap.size _ hx w4 HS.out.head HW.out.head hhl HB4.out hs4 (Nat.le_refl _) HO2.out (by omega)).mono ?_
  rintro e w5 ⟨v3, rfl, hown3, hgr3⟩
  have hbx5 := hgr3.keeps HO2.out HX4.out (by decide)
  generalize hQ : P ++ encXs (hx.map Xr.ex) = Q
  have HQ : Hid (P ++ encXs (hx.map Xr.ex) = Q) := hQ
  have hQl : Q.length ≤ 10000 := by rw [← hQ, List.length_append]; omega
  clear hQ
  have HO3 : Hid (w5.ownsRow w.heap.size 5 1 v3 Q.length (Q.map (Value.int .u8))) := by
    unfold Hid; rw [← HQ.out]; exact own_app hown3
  have HX5 : Hid (w5.heap[w.heap.size]? = some (svO s (.slice ah hx.length ch) (.slice at' tx.length ct) (.slice ad s.data.length cd) (.slice ac s.clm.length cc))) := hbx5
  have HB5 : Hid (Below w.heap.size w w5) := HB4.out.trans (hgr3.base HO2.out hs4)
  have hs5 : w.heap.size ≤ w5.heap.size := HB5.out.size
  have hcx := fun j => cell_of_row w5 w.heap.size j _ _ _ hbx5
  have q0 := hcx 0
  have q1 := hcx 1
  have q2 := hcx 2
  have q3 := hcx 3
  have q4 := hcx 4
  have q5 := hcx 5
  have q6 := hcx 6
  have q7 := hcx 7
  have q8 := hcx 8
  have q9 := hcx 9
  have q10 := hcx 10
  have q11 := hcx 11
  have q12 := hcx 12
  have q13 := hcx 13
  simp only [List.getElem?_toArray, List.getElem?_cons_succ, List.getElem?_cons_zero] at q0 q1 q2 q3 q4 q5 q6 q7 q8 q9 q10 q11 q12 q13
  clear hcx hbx5 hgr3 hown3 HO2 HX4 HB4 r3
  go_wp2_with fail
  refine (any_any _ _ _).mono ?_
  rintro e w' ⟨rfl, rfl⟩
  rw [show anyB 9 2 = false from by decide]
  go_wp2_with fail
  refine (any_any _ _ _).mono ?_
  rintro e w' ⟨rfl, rfl⟩
  rw [show anyB 9 8 = true from by decide]
  go_wp2_with fail
  refine (putReport_any w v3 Q.length _ w.heap.size s _ _ _ _ w5 HS.out.clm HW.out.rep HW.out.chk HW.out.upp HW.out.low HW.out.clm HW.out.cls HB5.out hs5 (Nat.le_refl _) HO3.out (by omega)).mono ?_
  rintro e w6 ⟨v4, rfl, hown4, hgr4⟩
  have hg56 : Grew w5 w6 v3 v4 := hgr4
  have hbx6 := hg56.keeps HO3.out HX5.out (by decide)
  generalize hR : Q ++ repB s = R
  have HR : Hid (Q ++ repB s = R) := hR
  have hRl : R.length ≤ 200000 := by
    have := conB_len HW.out
    rw [show conB 9 s = repB s from by simp [conB]] at this
    rw [← hR, List.length_append]; omega
  clear hR
  have HO4 : Hid (w6.ownsRow w.heap.size 5 1 v4 R.length (R.map (Value.int .u8))) := by
    unfold Hid; rw [← HR.out]; exact own_app hown4
  have HX6 : Hid (w6.heap[w.heap.size]? = some (svO s (.slice ah hx.length ch) (.slice at' tx.length ct) (.slice ad s.data.length cd) (.slice ac s.clm.length cc))) := hbx6
  have HB6 : Hid (Below w.heap.size w w6) := HB5.out.trans (hg56.base HO3.out hs5)
  have hs6 : w.heap.size ≤ w6.heap.size := HB6.out.size
  have t4 := cell_of_row w6 w.heap.size 4 _ _ _ hbx6
  simp only [List.getElem?_toArray, List.getElem?_cons_succ, List.getElem?_cons_zero] at t4
  clear hbx6 hg56 hown4 hgr4 HO3 HX5 HB5 q0 q1 q2 q3 q4 q5 q6 q7 q8 q9 q10 q11 q12 q13
  go_wp2_with fail
  refine (putExts_any w v4 R.length _ w.heap.size _ tx w6 HS.out.tail HW.out.tail htl HB6.out hs6 (Nat.le_refl _) HO4.out (by omega)).mono ?_
  rintro e w7 ⟨v5, rfl, hown5, hgr5⟩
  have HO7 : Hid (w7.ownsRow w.heap.size 5 1 v5 (layB 9 s).length ((layB 9 s).map (Value.int .u8))) := by
    have he : layB 9 s = R ++ encXs (tx.map Xr.ex) := by
      rw [← HR.out, ← HQ.out, ← HP.out, ← HJ.out]
      simp [layB, conB, HS.out.headEq, HS.out.tailEq]
    unfold Hid; rw [he]; exact own_app hown5
  have HB7 : Hid (Below w.heap.size w w7) := HB6.out.trans (hgr5.base HO4.out hs6)
  clear hown5 hgr5
  go_wp2
  go_ret
  exact ⟨v5, rfl, HO7.out, HB7.out⟩

set_option maxRecDepth 100000 in
set_option maxHeartbeats 8000000 in
theorem form_17 (s : Sg) (ah at' ad ac : Option Addr) (ch ct cd cc : Nat) (hx tx : List Xr) (w : World) (hs : SIn w s (.slice ah hx.length ch) (.slice at' tx.length ct) (.slice ad s.data.length cd) (.slice ac s.clm.length cc) hx tx) (hw : Wr 17 s hx tx) :
    Calls Tryd.prog 42 #[.agg (svC s (.slice ah hx.length ch) (.slice at' tx.length ct) (.slice ad s.data.length cd) (.slice ac s.clm.length cc)), .int .u8 17] w (FormP (layB 17 s) w) := by
  obtain ⟨i0, hi, hz0, hz1, hz2⟩ := info_parts Tryd.info_u8
  have HS : Hid (SIn w s (.slice ah hx.length ch) (.slice at' tx.length ct) (.slice ad s.data.length cd) (.slice ac s.clm.length cc) hx tx) := hs
  have HW : Hid (Wr 17 s hx tx) := hw
  have hty := hw.typ
  have hhl := hw.headL
  have htl := hw.tailL
  have hmod : s.typ % 256 = s.typ := by omega
  have HSM : Hid (Smalls [s.org, s.num]) := smalls_cons hw.org (smalls_cons hw.num smalls_nil)
  have hj1 := jn_len _ HSM.out
  simp only [List.length_cons, List.length_nil] at hj1
  have hor := or16 hx.length tx.length hhl htl
  have hx1 := encXs_len hx hw.head
  have hx2 := encXs_len tx hw.tail
  clear hs hw
  go_enter Tryd.func42, Tryd.ntmps42
  go_wp2_with fail
  have hown0 : (((w.alloc (svO s (.slice ah hx.length ch) (.slice at' tx.length ct) (.slice ad s.data.length cd) (.slice ac s.clm.length cc))).alloc (.cells #[.int .u8 s.typ] 5)).alloc (.cells #[.int .i64 s.org, .int .i64 s.num] 3)).ownsRow w.heap.size 5 1 (.slice (some ⟨w.heap.size + 1, 0, none⟩) 1 1) 1 [.int .u8 s.typ] := by
    have := World.ownsRow_lit (base := w.heap.size) (e := 5) (size := 1) (w.alloc (svO s (.slice ah hx.length ch) (.slice at' tx.length ct) (.slice ad s.data.length cd) (.slice ac s.clm.length cc))) #[.int .u8 s.typ] 1 (by simp) (by unfold maxLen; omega) rfl
    simp only [World.size_alloc] at this
    exact this.alloc _
  have hb1 : Blk .i64 (((w.alloc (svO s (.slice ah hx.length ch) (.slice at' tx.length ct) (.slice ad s.data.length cd) (.slice ac s.clm.length cc))).alloc (.cells #[.int .u8 s.typ] 5)).alloc (.cells #[.int .i64 s.org, .int .i64 s.num] 3)) (w.heap.size + 1 + 1) 3 [s.org, s.num] := by
    have := heap_alloc_new' ((w.alloc (svO s (.slice ah hx.length ch) (.slice at' tx.length ct) (.slice ad s.data.length cd) (.slice ac s.clm.length cc))).alloc (.cells #[.int .u8 s.typ] 5)) (.cells #[.int .i64 s.org, .int .i64 s.num] 3)
    simp only [World.size_alloc] at this
    exact this
  have hbx : (((w.alloc (svO s (.slice ah hx.length ch) (.slice at' tx.length ct) (.slice ad s.data.length cd) (.slice ac s.clm.length cc))).alloc (.cells #[.int .u8 s.typ] 5)).alloc (.cells #[.int .i64 s.org, .int .i64 s.num] 3)).heap[w.heap.size]? = some (svO s (.slice ah hx.length ch) (.slice at' tx.length ct) (.slice ad s.data.length cd) (.slice ac s.clm.length cc)) := by
    rw [Below.heap_alloc _ _ _ (by simp; omega), Below.heap_alloc _ _ _ (by simp)]; exact heap_alloc_new' _ _
  have hbel0 : Below w.heap.size w (((w.alloc (svO s (.slice ah hx.length ch) (.slice at' tx.length ct) (.slice ad s.data.length cd) (.slice ac s.clm.length cc))).alloc (.cells #[.int .u8 s.typ] 5)).alloc (.cells #[.int .i64 s.org, .int .i64 s.num] 3)) := (((Below.refl _ _).alloc (Nat.le_refl _) _).alloc (by simp) _).alloc (by simp; omega) _
  refine (putNumbers_any _ 1 _ w.heap.size (w.heap.size + 1 + 1) [s.org, s.num] _ HSM.out (by simp) hown0 (by simp; omega) (by omega) hb1).mono ?_
  rintro e w3 ⟨v1, rfl, hown1, hgr1⟩
  have hbx3 := hgr1.keeps hown0 hbx (by decide)
  generalize hJ : jn [s.org, s.num] = J at *
  have HJ : Hid (jn [s.org, s.num] = J) := hJ
  clear hJ
  have HO1 : Hid (w3.ownsRow w.heap.size 5 1 v1 (1 + J.length) ((s.typ :: J).map (Value.int .u8))) := hown1
  have HX3 : Hid (w3.heap[w.heap.size]? = some (svO s (.slice ah hx.length ch) (.slice at' tx.length ct) (.slice ad s.data.length cd) (.slice ac s.clm.length cc))) := hbx3
  have HB3 : Hid (Below w.heap.size w w3) := hbel0.trans (hgr1.base hown0 (by simp; omega))
  have q3 := cell_of_row w3 w.heap.size 3 _ _ _ hbx3
  have q4 := cell_of_row w3 w.heap.size 4 _ _ _ hbx3
  simp only [List.getElem?_toArray, List.getElem?_cons_succ, List.getElem?_cons_zero] at q3 q4
  have hs3 : w.heap.size ≤ w3.heap.size := HB3.out.size
  clear hown0 hb1 hbx hbel0 hbx3 hgr1 hown1
  go_wp2_with (at_builtin; refine append_at _ rfl _ _ 26 rfl w.heap.size 5 i0 (.int .u8 0) 1 Tryd.underlying26 hi hz0 hz1 hz2 rfl _ _ _ rfl (HO1.out.alloc _) .u8 (some ⟨w3.heap.size, 0, none⟩) 1 1 [16 * (hx.length : Int) + tx.length] rfl (fun h => by cases h) rfl ((show Blk .u8 (w3.alloc (.cells #[.int .u8 (16 * (hx.length : Int) + tx.length)] 5)) w3.heap.size 5 [16 * (hx.length : Int) + tx.length] from heap_alloc_new' _ _).lies 1) (by unfold maxLen; omega) (by omega) (by simp; omega) ?_)

  intro v2 w4 hown2 hgr2 hst2
  have hg34 : Grew w3 w4 v1 v2 := (Grew.below ((Below.refl _ _).alloc (Nat.le_refl _) _)).trans ⟨hgr2, by simpa using hst2⟩
  have hbx4 := hg34.keeps HO1.out HX3.out (by decide)
  generalize hP : s.typ :: (J ++ [16 * (hx.length : Int) + tx.length]) = P
  have HP : Hid (s.typ :: (J ++ [16 * (hx.length : Int) + tx.length]) = P) := hP
  have hPl : P.length ≤ 100 := by rw [← hP]; simp; omega
  clear hP
  have HO2 : Hid (w4.ownsRow w.heap.size 5 1 v2 P.length (P.map (Value.int .u8))) := by
    unfold Hid; rw [← HP.out]; simpa [Nat.add_comm, Nat.add_left_comm, Nat.add_assoc] using hown2
  have HX4 : Hid (w4.heap[w.heap.size]? = some (svO s (.slice ah hx.length ch) (.slice at' tx.length ct) (.slice ad s.data.length cd) (.slice ac s.clm.length cc))) := hbx4
  have HB4 : Hid (Below w.heap.size w w4) := HB3.out.trans (hg34.base HO1.out hs3)
  have hs4 : w.heap.size ≤ w4.heap.size := HB4.out.size
  have r3 := cell_of_row w4 w.heap.size 3 _ _ _ hbx4
  simp only [List.getElem?_toArray, List.getElem?_cons_succ, List.getElem?_cons_zero] at r3
  clear q3 q4 hbx4 hg34 hgr2 hst2 hown2 HO1 HX3 HB3 hor
  go_wp2_with fail
  refine (putExts_any w v2 P.length _ w.heap.size _ hx w4 HS.out.head HW.out.head hhl HB4.out hs4 (Nat.le_refl _) HO2.out (by omega)).mono ?_
  rintro e w5 ⟨v3, rfl, hown3, hgr3⟩
  have hbx5 := hgr3.keeps HO2.out HX4.out (by decide)
  generalize hQ : P ++ encXs (hx.map Xr.ex) = Q
  have HQ : Hid (P ++ encXs (hx.map Xr.ex) = Q) := hQ
  have hQl : Q.length ≤ 10000 := by rw [← hQ, List.length_append]; omega
  clear hQ
  have HO3 : Hid (w5.ownsRow w.heap.size 5 1 v3 Q.length (Q.map (Value.int .u8))) := by
    unfold Hid; rw [← HQ.out]; exact own_app hown3
  have HX5 : Hid (w5.heap[w.heap.size]? = some (svO s (.slice ah hx.length ch) (.slice at' tx.length ct) (.slice ad s.data.length cd) (.slice ac s.clm.length cc))) := hbx5
  have HB5 : Hid (Below w.heap.size w w5) := HB4.out.trans (hgr3.base HO2.out hs4)
  have hs5 : w.heap.size ≤ w5.heap.size := HB5.out.size
  have hcx := fun j => cell_of_row w5 w.heap.size j _ _ _ hbx5
  have q0 := hcx 0
  have q1 := hcx 1
  have q2 := hcx 2
  have q3 := hcx 3
  have q4 := hcx 4
  have q5 := hcx 5
  have q6 := hcx 6
  have q7 := hcx 7
  have q8 := hcx 8
  have q9 := hcx 9
  have q10 := hcx 10
  have q11 := hcx 11
  have q12 := hcx 12
  have q13 := hcx 13
  simp only [List.getElem?_toArray, List.getElem?_cons_succ, List.getElem?_cons_zero] at q0 q1 q2 q3 q4 q5 q6 q7 q8 q9 q10 q11 q12 q13
  clear hcx hbx5 hgr3 hown3 HO2 HX4 HB4 r3
  go_wp2_with fail
  refine (any_any _ _ _).mono ?_
  rintro e w' ⟨rfl, rfl⟩
  rw [show anyB 17 2 = false from by decide]
  go_wp2_with fail
  refine (any_any _ _ _).mono ?_
  rintro e w' ⟨rfl, rfl⟩
  rw [show anyB 17 8 = false from by decide]
  go_wp2_with fail
  refine (any_any _ _ _).mono ?_
  rintro e w' ⟨rfl, rfl⟩
  rw [show anyB 17 16 = true from by decide]
  go_wp2_with fail
  have hbn : Blk .i64 (w5.alloc (.cells #[.int .i64 s.rep] 3)) w5.heap.size 3 [s.rep] := heap_alloc_new' _ _
  refine (putNumbers_any v3 Q.length _ w.heap.size w5.heap.size [s.rep] _ (smalls_one HW.out.rep) (by simp) (HO3.out.alloc _) (by simp; omega) (by omega) hbn).mono ?_
  rintro e w6 ⟨v4, rfl, hown4, hgr4⟩
  have hg56 : Grew w5 w6 v3 v4 := (Grew.below ((Below.refl _ _).alloc (Nat.le_refl _) _)).trans hgr4
  have hbx6 := hg56.keeps HO3.out HX5.out (by decide)
  generalize hR : Q ++ jn [s.rep] = R
  have HR : Hid (Q ++ jn [s.rep] = R) := hR
  have hRl : R.length ≤ 200000 := by
    have := conB_len HW.out
    rw [show conB 17 s = jn [s.rep] from by simp [conB]] at this
    rw [← hR, List.length_append]; omega
  clear hR
  have HO4 : Hid (w6.ownsRow w.heap.size 5 1 v4 R.length (R.map (Value.int .u8))) := by
    unfold Hid; rw [← HR.out]; exact own_app hown4
  have HX6 : Hid (w6.heap[w.heap.size]? = some (svO s (.slice ah hx.length ch) (.slice at' tx.length ct) (.slice ad s.data.length cd) (.slice ac s.clm.length cc))) := hbx6
  have HB6 : Hid (Below w.heap.size w w6) := HB5.out.trans (hg56.base HO3.out hs5)
  have hs6 : w.heap.size ≤ w6.heap.size := HB6.out.size
  have t4 := cell_of_row w6 w.heap.size 4 _ _ _ hbx6
  simp only [List.getElem?_toArray, List.getElem?_cons_succ, List.getElem?_cons_zero] at t4
  clear hbx6 hg56 hown4 hgr4 HO3 HX5 HB5 hbn q0 q1 q2 q3 q4 q5 q6 q7 q8 q9 q10 q11 q12 q13
  go_wp2_with fail
  refine (putExts_any w v4 R.length _ w.heap.size _ tx w6 HS.out.tail HW.out.tail htl HB6.out hs6 (Nat.le_refl _) HO4.out (by omega)).mono ?_
  rintro e w7 ⟨v5, rfl, hown5, hgr5⟩
  have HO7 : Hid (w7.ownsRow w.heap.size 5 1 v5 (layB 17 s).length ((layB 17 s).map (Value.int .u8))) := by
    have he : layB 17 s = R ++ encXs (tx.map Xr.ex) := by
      rw [← HR.out, ← HQ.out, ← HP.out, ← HJ.out]
      simp [layB, conB, HS.out.headEq, HS.out.tailEq]
    unfold Hid; rw [he]; exact own_app hown5
  have HB7 : Hid (Below w.heap.size w w7) := HB6.out.trans (hgr5.base HO4.out hs6)
  clear hown5 hgr5
  go_wp2
  go_ret
  exact ⟨v5, rfl, HO7.out, HB7.out⟩

set_option maxRecDepth 100000 in
set_option maxHeartbeats 8000000 in
theorem form_33 (s : Sg) (ah at' ad ac : Option Addr) (ch ct cd cc : Nat) (hx tx : List Xr) (w : World) (hs : SIn w s (.slice ah hx.length ch) (.slice at' tx.length ct) (.slice ad s.data.length cd) (.slice ac s.clm.length cc) hx tx) (hw : Wr 33 s hx tx) :
    Calls Tryd.prog 42 #[.agg (svC s (.slice ah hx.length ch) (.slice at' tx.length ct) (.slice ad s.data.length cd) (.slice ac s.clm.length cc)), .int .u8 33] w (FormP (layB 33 s) w) := by
  obtain ⟨i0, hi, hz0, hz1, hz2⟩ := info_parts Tryd.info_u8
  have HS : Hid (SIn w s (.slice ah hx.length ch) (.slice at' tx.length ct) (.slice ad s.data.length cd) (.slice ac s.clm.length cc) hx tx) := hs
  have HW : Hid (Wr 33 s hx tx) := hw
  have hty := hw.typ
  have hhl := hw.headL
  have htl := hw.tailL
  have hmod : s.typ % 256 = s.typ := by omega
  have HSM : Hid (Smalls [s.org, s.num]) := smalls_cons hw.org (smalls_cons hw.num smalls_nil)
  have hj1 := jn_len _ HSM.out
  simp only [List.length_cons, List.length_nil] at hj1
  have hor := or16 hx.length tx.length hhl htl
  have hx1 := encXs_len hx hw.head
  have hx2 := encXs_len tx hw.tail
  clear hs hw
  go_enter Tryd.func42, Tryd.ntmps42
  go_wp2_with fail
  have hown0 : (((w.alloc (svO s (.slice ah hx.length ch) (.slice at' tx.length ct) (.slice ad s.data.length cd) (.slice ac s.clm.length cc))).alloc (.cells #[.int .u8 s.typ] 5)).alloc (.cells #[.int .i64 s.org, .int .i64 s.num] 3)).ownsRow w.heap.size 5 1 (.slice (some ⟨w.heap.size + 1, 0, none⟩) 1 1) 1 [.int .u8 s.typ] := by
    have := World.ownsRow_lit (base := w.heap.size) (e := 5) (size := 1) (w.alloc (svO s (.slice ah hx.length ch) (.slice at' tx.length ct) (.slice ad s.data.length cd) (.slice ac s.clm.length cc))) #[.int .u8 s.typ] 1 (by simp) (by unfold maxLen; omega) rfl
    simp only [World.size_alloc] at this
    exact this.alloc _
  have hb1 : Blk .i64 (((w.alloc (svO s (.slice ah hx.length ch) (.slice at' tx.length ct) (.slice ad s.data.length cd) (.slice ac s.clm.length cc))).alloc (.cells #[.int .u8 s.typ] 5)).alloc (.cells #[.int .i64 s.org, .int .i64 s.num] 3)) (w.heap.size + 1 + 1) 3 [s.org, s.num] := by
    have := heap_alloc_new' ((w.alloc (svO s (.slice ah hx.length ch) (.slice at' tx.length ct) (.slice ad s.data.length cd) (.slice ac s.clm.length cc))).alloc (.cells #[.int .u8 s.typ] 5)) (.cells #[.int .i64 s.org, .int .i64 s.num] 3)
    simp only [World.size_alloc] at this
    exact this
  have hbx : (((w.alloc (svO s (.slice ah hx.length ch) (.slice at' tx.length ct) (.slice ad s.data.length cd) (.slice ac s.clm.length cc))).alloc (.cells #[.int .u8 s.typ] 5)).alloc (.cells #[.int .i64 s.org, .int .i64 s.num] 3)).heap[w.heap.size]? = some (svO s (.slice ah hx.length ch) (.slice at' tx.length ct) (.slice ad s.data.length cd) (.slice ac s.clm.length cc)) := by
    rw [Below.heap_alloc _ _ _ (by simp; omega), Below.heap_alloc _ _ _ (by simp)]; exact heap_alloc_new' _ _
  have hbel0 : Below w.heap.size w (((w.alloc (svO s (.slice ah hx.length ch) (.slice at' tx.length ct) (.slice ad s.data.length cd) (.slice ac s.clm.length cc))).alloc (.cells #[.int .u8 s.typ] 5)).alloc (.cells #[.int .i64 s.org, .int .i64 s.num] 3)) := (((Below.refl _ _).alloc (Nat.le_refl _) _).alloc (by simp) _).alloc (by simp; omega) _
  refine (putNumbers_any _ 1 _ w.heap.size (w.heap.size + 1 + 1) [s.org, s.num] _ HSM.out (by simp) hown0 (by simp; omega) (by omega) hb1).mono ?_
  rintro e w3 ⟨v1, rfl, hown1, hgr1⟩
  have hbx3 := hgr1.keeps hown0 hbx (by decide)
  generalize hJ : jn [s.org, s.num] = J at *
  have HJ : Hid (jn [s.org, s.num] = J) := hJ
  clear hJ
  have HO1 : Hid (w3.ownsRow w.heap.size 5 1 v1 (1 + J.length) ((s.typ :: J).map (Value.int .u8))) := hown1
  have HX3 : Hid (w3.heap[w.heap.size]? = some (svO s (.slice ah hx.length ch) (.slice at' tx.length ct) (.slice ad s.data.length cd) (.slice ac s.clm.length cc))) := hbx3
  have HB3 : Hid (Below w.heap.size w w3) := hbel0.trans (hgr1.base hown0 (by simp; omega))
  have q3 := cell_of_row w3 w.heap.size 3 _ _ _ hbx3
  have q4 := cell_of_row w3 w.heap.size 4 _ _ _ hbx3
  simp only [List.getElem?_toArray, List.getElem?_cons_succ, List.getElem?_cons_zero] at q3 q4
  have hs3 : w.heap.size ≤ w3.heap.size := HB3.out.size
  clear hown0 hb1 hbx hbel0 hbx3 hgr1 hown1
  go_wp2_with (at_builtin; refine append_at _ rfl _ _ 26 rfl w.heap.size 5 i0 (.int .u8 0) 1 Tryd.underlying26 hi hz0 hz1 hz2 rfl _ _ _ rfl (HO1.out.alloc _) .u8 (some ⟨w3.heap.size, 0, none⟩) 1 1 [16 * (hx.length : Int) + tx.length] rfl (fun h => by cases h) rfl ((show Blk .u8 (w3.alloc (.cells #[.int .u8 (16 * (hx.length : Int) + tx.length)] 5)) w3.heap.size 5 [16 * (hx.length : Int) + tx.length] from heap_alloc_new' _ _).lies 1) (by unfold maxLen; omega) (by omega) (by simp; omega) ?_)

  intro v2 w4 hown2 hgr2 hst2
  have hg34 : Grew w3 w4 v1 v2 := (Grew.below ((Below.refl _ _).alloc (Nat.le_refl _) _)).trans ⟨hgr2, by simpa using hst2⟩
  have hbx4 := hg34.keeps HO1.out HX3.out (by decide)
  generalize hP : s.typ :: (J ++ [16 * (hx.length : Int) + tx.length]) = P
  have HP : Hid (s.typ :: (J ++ [16 * (hx.length : Int) + tx.length]) = P) := hP
  have hPl : P.length ≤ 100 := by rw [← hP]; simp; omega
  clear hP
  have HO2 : Hid (w4.ownsRow w.heap.size 5 1 v2 P.length (P.map (Value.int .u8))) := by
    unfold Hid; rw [← HP.out]; simpa [Nat.add_comm, Nat.add_left_comm, Nat.add_assoc] using hown2
  have HX4 : Hid (w4.heap[w.heap.size]? = some (svO s (.slice ah hx.length ch) (.slice at' tx.length ct) (.slice ad s.data.length cd) (.slice ac s.clm.length cc))) := hbx4
  have HB4 : Hid (Below w.heap.size w w4) := HB3.out.trans (hg34.base HO1.out hs3)
  have hs4 : w.heap.size ≤ w4.heap.size := HB4.out.size
  have r3 := cell_of_row w4 w.heap.size 3 _ _ _ hbx4
  simp only [List.getElem?_toArray, List.getElem?_cons_succ, List.getElem?_cons_zero] at r3
  clear q3 q4 hbx4 hg34 hgr2 hst2 hown2 HO1 HX3 HB3 hor
  go_wp2_with fail
  refine (putExts_any w v2 P.length _ w.heap.size _ hx w4 HS.out.head HW.out.head hhl HB4.out hs4 (Nat.le_refl _) HO2.out (by omega)).mono ?_
  rintro e w5 ⟨v3, rfl, hown3, hgr3⟩
  have hbx5 := hgr3.keeps HO2.out HX4.out (by decide)
  generalize hQ : P ++ encXs (hx.map Xr.ex) = Q
  have HQ : Hid (P ++ encXs (hx.map Xr.ex) = Q) := hQ
  have hQl : Q.length ≤ 10000 := by rw [← hQ, List.length_append]; omega
  clear hQ
  have HO3 : Hid (w5.ownsRow w.heap.size 5 1 v3 Q.length (Q.map (Value.int .u8))) := by
    unfold Hid; rw [← HQ.out]; exact own_app hown3
  have HX5 : Hid (w5.heap[w.heap.size]? = some (svO s (.slice ah hx.length ch) (.slice at' tx.length ct) (.slice ad s.data.length cd) (.slice ac s.clm.length cc))) := hbx5
  have HB5 : Hid (Below w.heap.size w w5) := HB4.out.trans (hgr3.base HO2.out hs4)
  have hs5 : w.heap.size ≤ w5.heap.size := HB5.out.size
  have hcx := fun j => cell_of_row w5 w.heap.size j _ _ _ hbx5
  have q0 := hcx 0
  have q1 := hcx 1
  have q2 := hcx 2
  have q3 := hcx 3
  have q4 := hcx 4
  have q5 := hcx 5
  have q6 := hcx 6
  have q7 := hcx 7
  have q8 := hcx 8
  have q9 := hcx 9
  have q10 := hcx 10
  have q11 := hcx 11
  have q12 := hcx 12
  have q13 := hcx 13
  simp only [List.getElem?_toArray, List.getElem?_cons_succ, List.getElem?_cons_zero] at q0 q1 q2 q3 q4 q5 q6 q7 q8 q9 q10 q11 q12 q13
  clear hcx hbx5 hgr3 hown3 HO2 HX4 HB4 r3
  go_wp2_with fail
  refine (any_any _ _ _).mono ?_
  rintro e w' ⟨rfl, rfl⟩
  rw [show anyB 33 2 = false from by decide]
  go_wp2_with fail
  refine (any_any _ _ _).mono ?_
  rintro e w' ⟨rfl, rfl⟩
  rw [show anyB 33 8 = false from by decide]
  go_wp2_with fail
  refine (any_any _ _ _).mono ?_
  rintro e w' ⟨rfl, rfl⟩
  rw [show anyB 33 16 = false from by decide]
  go_wp2_with fail
  refine (any_any _ _ _).mono ?_
  rintro e w' ⟨rfl, rfl⟩
  rw [show anyB 33 32 = true from by decide]
  have hrm : s.rsn % 256 = s.rsn := by have := HW.out.rsn; omega
  go_wp2_with (at_builtin; refine append_at _ rfl _ _ 26 rfl w.heap.size 5 i0 (.int .u8 0) 1 Tryd.underlying26 hi hz0 hz1 hz2 rfl _ _ _ rfl (HO3.out.alloc _) .u8 (some ⟨w5.heap.size, 0, none⟩) 1 1 [s.rsn] rfl (fun h => by cases h) rfl ((show Blk .u8 (w5.alloc (.cells #[.int .u8 s.rsn] 5)) w5.heap.size 5 [s.rsn] from heap_alloc_new' _ _).lies 1) (by unfold maxLen; omega) (by omega) (by simp; omega) ?_)
  intro v4 w6 hown4 hgr4 hst4
  have hg56 : Grew w5 w6 v3 v4 := (Grew.below ((Below.refl _ _).alloc (Nat.le_refl _) _)).trans ⟨hgr4, by simpa using hst4⟩
  have hbx6 := hg56.keeps HO3.out HX5.out (by decide)
  generalize hR : Q ++ [s.rsn] = R
  have HR : Hid (Q ++ [s.rsn] = R) := hR
  have hRl : R.length ≤ 200000 := by
    have := conB_len HW.out
    rw [show conB 33 s = [s.rsn] from by simp [conB]] at this
    rw [← hR, List.length_append]; omega
  clear hR
  have HO4 : Hid (w6.ownsRow w.heap.size 5 1 v4 R.length (R.map (Value.int .u8))) := by
    unfold Hid; rw [← HR.out]; exact own_app (by simpa using hown4)
  have HX6 : Hid (w6.heap[w.heap.size]? = some (svO s (.slice ah hx.length ch) (.slice at' tx.length ct) (.slice ad s.data.length cd) (.slice ac s.clm.length cc))) := hbx6
  have HB6 : Hid (Below w.heap.size w w6) := HB5.out.trans (hg56.base HO3.out hs5)
  have hs6 : w.heap.size ≤ w6.heap.size := HB6.out.size
  have t4 := cell_of_row w6 w.heap.size 4 _ _ _ hbx6
  simp only [List.getElem?_toArray, List.getElem?_cons_succ, List.getElem?_cons_zero] at t4
  clear hbx6 hg56 hown4 hgr4 HO3 HX5 HB5 hst4 q0 q1 q2 q3 q4 q5 q6 q7 q8 q9 q10 q11 q12 q13
  go_wp2_with fail
  refine (putExts_any w v4 R.length _ w.heap.size _ tx w6 HS.out.tail HW.out.tail htl HB6.out hs6 (Nat.le_refl _) HO4.out (by omega)).mono ?_
  rintro e w7 ⟨v5, rfl, hown5, hgr5⟩
  have HO7 : Hid (w7.ownsRow w.heap.size 5 1 v5 (layB 33 s).length ((layB 33 s).map (Value.int .u8))) := by
    have he : layB 33 s = R ++ encXs (tx.map Xr.ex) := by
      rw [← HR.out, ← HQ.out, ← HP.out, ← HJ.out]
      simp [layB, conB, HS.out.headEq, HS.out.tailEq]
    unfold Hid; rw [he]; exact own_app hown5
  have HB7 : Hid (Below w.heap.size w w7) := HB6.out.trans (hgr5.base HO4.out hs6)
  clear hown5 hgr5
  go_wp2
  go_ret
  exact ⟨v5, rfl, HO7.out, HB7.out⟩

end Go.Proofs.YtcfodcioeefbeaaDoor
