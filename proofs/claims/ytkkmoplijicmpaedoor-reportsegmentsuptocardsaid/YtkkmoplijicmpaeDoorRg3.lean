import Derived.Test.YtkkmoplijicmpaeDoorRg2
import Derived.Test.YtkkmoplijicmpaeDoorRpS5
import Derived.Test.YtkkmoplijicmpaeDoorLs2
namespace Go.Proofs.YtkkmoplijicmpaeDoor
open Go.RowKit
set_option linter.unusedVariables false
set_option linter.unusedSimpArgs false

theorem seg_end3 {w w3 V : World} {A b2 n c : Nat} {a : Option Addr} {l : List (Int × Int)} (hb : Below w.heap.size w w3) (hs : C.SOwn w3 b2 (.slice a n c) l) (h2 : w.heap.size + 1 + 1 < b2) (h3 : A < b2 ∧ w.heap.size ≤ A) (hl : l.length ≤ 1048576) (hk : Kb2 A (w.heap.size + 1 + 1) w3 V) : C.SOwn V w.heap.size (.slice a n c) l ∧ Below w.heap.size w V :=
  ⟨own_low5 (hs.blk2 fun g hg => hk.block g (by have h1 := (hs.lt g hg).1; omega) (by have h1 := (hs.lt g hg).1; omega)) (by omega), (seg_end2 hb hs h2 h3 hl hk).2⟩

set_option maxRecDepth 100000 in
set_option maxHeartbeats 8000000 in
/-- report.Segment, of a report that may be; what it answers is its owner's. -/
theorem segment5_own (k : Qu) (ok : k.Ok) (r : Rr) (hr : r.Ok) (a : Option Addr) (n c : Nat) (hn : r.clm.length = n) (hnc : n ≤ c) (hcc : c ≤ 9223372036854775807) (w : World) (hC : CIn w (.slice a n c) r.clm) :
    Calls Tryd.prog 37 #[.agg #[.int .i64 k.org, .int .i64 k.num], .agg (rpA r n a c)] w fun e w' => ∃ a' c', e = .returned (.tuple #[.agg (rsC k r a' n c'), .int .i64 0]) ∧ C.SOwn w' w.heap.size (.slice a' n c') r.clm ∧ Below w.heap.size w w' := by
  obtain ⟨W, hW⟩ : ∃ W, ((w.alloc (.cells #[.int .i64 k.org, .int .i64 k.num] 23)).alloc (.cells (rpA r n a c) 75)).alloc (.cells #[.int .i64 0, .int .i64 0, .int .i64 0, .slice none 0 0, .slice none 0 0, .int .i64 0, .int .i64 0, .slice none 0 0, .int .i64 0, .int .i64 0, .int .i64 0, .int .i64 0, .slice none 0 0, .int .i64 0] 81) = W := ⟨_, rfl⟩
  have HWe : Hid (_ = W) := hW
  have hbW : Below w.heap.size w W := by rw [← hW]; exact (((Below.refl _ _).alloc (Nat.le_refl _) _).alloc (by simp) _).alloc (by simp; omega) _
  have HBW : Hid (Below w.heap.size w W) := hbW
  have hz : W.heap.size = w.heap.size + 3 := by rw [← hW]; simp
  have HZ : Hid (W.heap.size = w.heap.size + 3) := hz
  have r0 : W.heap[w.heap.size]? = some (.cells #[.int .i64 k.org, .int .i64 k.num] 23 (0, 0)) := by rw [← hW]; exact al_old (al_old (al_new _ _))
  have r1 : W.heap[w.heap.size + 1]? = some (.cells (rpA r n a c) 75 (0, 0)) := by
    rw [← hW]
    have := al_new (w.alloc (.cells #[.int .i64 k.org, .int .i64 k.num] 23)) (.cells (rpA r n a c) 75)
    rw [World.size_alloc] at this
    exact al_old this
  have r2 : W.heap[w.heap.size + 1 + 1]? = some (.cells #[.int .i64 0, .int .i64 0, .int .i64 0, .slice none 0 0, .slice none 0 0, .int .i64 0, .int .i64 0, .slice none 0 0, .int .i64 0, .int .i64 0, .int .i64 0, .int .i64 0, .slice none 0 0, .int .i64 0] 81 (0, 0)) := by
    rw [← hW]
    have := al_new ((w.alloc (.cells #[.int .i64 k.org, .int .i64 k.num] 23)).alloc (.cells (rpA r n a c) 75)) (.cells #[.int .i64 0, .int .i64 0, .int .i64 0, .slice none 0 0, .slice none 0 0, .int .i64 0, .int .i64 0, .slice none 0 0, .int .i64 0, .int .i64 0, .int .i64 0, .int .i64 0, .slice none 0 0, .int .i64 0] 81)
    rw [World.size_alloc, World.size_alloc] at this
    exact this
  have HRb : Hid (∀ V, Below W.heap.size W V → (V.cell? ⟨w.heap.size, 0, none⟩ = some (.int .i64 k.org) ∧ V.cell? ⟨w.heap.size, 1, none⟩ = some (.int .i64 k.num)) ∧ (V.cell? ⟨w.heap.size + 1, 0, none⟩ = some (.int .i64 r.ser) ∧ V.cell? ⟨w.heap.size + 1, 1, none⟩ = some (.int .i64 r.chk) ∧ V.cell? ⟨w.heap.size + 1, 2, none⟩ = some (.int .i64 r.upp) ∧ V.cell? ⟨w.heap.size + 1, 3, none⟩ = some (.int .i64 r.low) ∧ V.cell? ⟨w.heap.size + 1, 4, none⟩ = some (.slice a n c)) ∧ V.heap[w.heap.size + 1 + 1]? = some (.cells #[.int .i64 0, .int .i64 0, .int .i64 0, .slice none 0 0, .slice none 0 0, .int .i64 0, .int .i64 0, .slice none 0 0, .int .i64 0, .int .i64 0, .int .i64 0, .int .i64 0, .slice none 0 0, .int .i64 0] 81 (0, 0))) := fun V hV => by
    have s0 := (hV.block _ (Array.getElem?_eq_some_iff.1 r0).1).trans r0
    have s1 := (hV.block _ (Array.getElem?_eq_some_iff.1 r1).1).trans r1
    have s2 := (hV.block _ (Array.getElem?_eq_some_iff.1 r2).1).trans r2
    exact ⟨⟨(cell_of_row _ _ _ _ _ _ s0).trans rfl, (cell_of_row _ _ _ _ _ _ s0).trans rfl⟩, ⟨(cell_of_row _ _ _ _ _ _ s1).trans rfl, (cell_of_row _ _ _ _ _ _ s1).trans rfl, (cell_of_row _ _ _ _ _ _ s1).trans rfl, (cell_of_row _ _ _ _ _ _ s1).trans rfl, (cell_of_row _ _ _ _ _ _ s1).trans rfl⟩, s2⟩
  have hS := session5_any k.org k.num W
  rw [decide_eq_true ⟨ok.org, ok.num⟩] at hS
  have HMy : Hid (∀ V, Below W.heap.size W V → Calls Tryd.prog 90 #[.agg (rpA r n a c)] V fun e w' => e = .returned (.bool true) ∧ Below V.heap.size V w') := fun V hV => mayBe5_ok r hr a n c hn hnc hcc V ((hC.below hbW).below hV)
  have HFo := fun V => form5_any k.org k.num r.ser r.chk r.upp r.low (.slice a n c) a n c rfl V
  obtain ⟨p, hp⟩ := get_one r.clm 0 hr.some
  obtain ⟨g, off, rfl, _⟩ := hC.at hp
  have HCl : Hid (∀ V, Below W.heap.size W V → Calls Tryd.prog 64 #[.slice (some ⟨g, off, none⟩) n c] V fun e w' => ∃ v, e = .returned v ∧ C.SOwn w' V.heap.size v r.clm ∧ Below V.heap.size V w') := fun V hV => clone5_some g off c n r.clm V ((hC.below hbW).below hV) hn (by have := hr.some; omega)
  have HSm : Hid (r.clm.length ≤ 1048576) := hC.small
  have HNn : Hid (r.clm.length = n) := hn
  obtain ⟨⟨s0, s1⟩, ⟨y0, y1, y2, y3, y4⟩, _⟩ := HRb.out W (Below.refl _ _)
  clear hW hbW hC hr ok hn r0 r1 r2 hz hp
  go_enter Tryd.func37, Tryd.ntmps37
  go_wp2_with fail
  rw [HWe.out]
  refine hS.mono ?_
  rintro e w1 ⟨rfl, hb1⟩
  have HB1 : Hid (Below W.heap.size W w1) := hb1
  clear s0 s1 y0 y1 y2 y3 y4 hS
  obtain ⟨⟨s0, s1⟩, ⟨y0, y1, y2, y3, y4⟩, _⟩ := HRb.out w1 hb1
  have hMy := HMy.out w1 hb1
  clear hb1
  go_wp2_with fail
  refine hMy.mono ?_
  rintro e w2 ⟨rfl, hb2⟩
  have HB2 : Hid (Below W.heap.size W w2) := HB1.out.trans (hb2.mono HB1.out.size)
  clear s0 s1 y0 y1 y2 y3 y4 hMy hb2
  obtain ⟨⟨s0, s1⟩, ⟨y0, y1, y2, y3, y4⟩, _⟩ := HRb.out w2 HB2.out
  go_wp2_with fail
  refine (HFo _).mono ?_
  rintro e w3 ⟨rfl, hb3⟩
  have HB3 : Hid (Below W.heap.size W w3) := HB2.out.trans (hb3.mono HB2.out.size)
  obtain ⟨w4, hw4⟩ : ∃ x, w3.alloc (.cells (rsC k r (some ⟨g, off, none⟩) n c) 81) = x := ⟨_, rfl⟩
  have HW4 : Hid (w3.alloc (.cells (rsC k r (some ⟨g, off, none⟩) n c) 81) = w4) := hw4
  have HB4 : Hid (Below W.heap.size W w4 ∧ w4.heap.size = w3.heap.size + 1 ∧ W.heap.size ≤ w3.heap.size) := by rw [← hw4]; exact ⟨HB3.out.alloc HB3.out.size _, by simp, HB3.out.size⟩
  have HX4 : Hid (w4.heap[w3.heap.size]? = some (.cells (rsC k r (some ⟨g, off, none⟩) n c) 81 (0, 0))) := by show _ = _; rw [← hw4]; exact al_new _ _
  clear s0 s1 y0 y1 y2 y3 y4 hb3 hw4 HFo
  obtain ⟨⟨s0, s1⟩, ⟨y0, y1, y2, y3, y4⟩, _⟩ := HRb.out w4 HB4.out.1
  have hCl := HCl.out w4 HB4.out.1
  go_upto_region 6 with fail
  rw [HW4.out]
  go_wp2_with fail
  refine hCl.mono ?_
  rintro e w5 ⟨v5, rfl, hs5, hb5⟩
  obtain ⟨a5, c5, hv5⟩ := hs5.shape
  rw [HNn.out] at hv5
  subst hv5
  have HB5 : Hid (Below W.heap.size W w5) := HB4.out.1.trans (hb5.mono HB4.out.1.size)
  have HS5 : Hid (C.SOwn w5 w4.heap.size (.slice a5 n c5) r.clm) := hs5
  have hx5 := (hb5.block w3.heap.size (Array.getElem?_eq_some_iff.1 HX4.out).1).trans HX4.out
  clear s0 s1 y0 y1 y2 y3 y4 hCl hs5
  obtain ⟨e0, e1, e2, e3, e4, e5, e6, e7, e8, e9, e10, e11, e12, e13, f12⟩ := seg_cx hx5
  obtain ⟨d0, d1, d2, d3, d4, d5, d6, d7, d8, d9, d10, d11, d12, d13, z0, z1, z2, z3, z4, z5, z6, z7, z8, z9, z10, z11, z12, z13⟩ := seg_cz (HRb.out w5 HB5.out).2.2
  have hn1 : w3.heap.size ≠ w.heap.size + 1 + 1 := by have := HB4.out; have := HZ.out; omega
  have hn2 : w.heap.size + 1 + 1 ≠ w3.heap.size := by have := HB4.out; have := HZ.out; omega
  clear hb5 hx5 HX4 HW4
  go_wp2
  refine bodyPost_ret (v := .tuple #[.agg (rsC k r a5 n c5), .int .i64 0]) (by simp [results, Tryd.results37, go_sem, d0, d1, d2, d3, d4, d5, d6, d7, d8, d9, d10, d11, d12, d13]) rfl ?_
  obtain ⟨q1, q2⟩ := seg_end3 (A := w3.heap.size) (HBW.out.trans (HB5.out.mono HBW.out.size)) HS5.out (by have := HB4.out; have := HZ.out; omega) (by have := HB4.out; have := HZ.out; omega) HSm.out (((((((((((((((((Kb2.refl _ _ _).set _ _ _ (.inl rfl)).set _ _ _ (.inr rfl)).set _ _ _ (.inr rfl)).set _ _ _ (.inr rfl)).set _ _ _ (.inr rfl)).set _ _ _ (.inr rfl)).set _ _ _ (.inr rfl)).set _ _ _ (.inr rfl)).set _ _ _ (.inr rfl)).set _ _ _ (.inr rfl)).set _ _ _ (.inr rfl)).set _ _ _ (.inr rfl)).set _ _ _ (.inr rfl)).set _ _ _ (.inr rfl)).set _ _ _ (.inr rfl)))
  exact ⟨a5, c5, rfl, q1, q2⟩


attribute [local go_sem ↓] wp_store2
attribute [local go_sem] pBlk2_ptr pAgg2_agg
def z14 : Sg := ⟨0, 0, 0, [], [], 0, 0, [], 0, 0, 0, 0, [], 0⟩
/-- What Segment tells, and the segment. -/
def sgE (o m : Int) (r : Rr) : Int := if ((1 ≤ o ∧ o ≤ 4611686018427387903) ∧ (1 ≤ m ∧ m ≤ 4611686018427387902)) then (if mb5 r = true then 0 else 50) else 1
def sgR (o m : Int) (r : Rr) : Sg := if ((1 ≤ o ∧ o ≤ 4611686018427387903) ∧ (1 ≤ m ∧ m ≤ 4611686018427387902)) ∧ mb5 r = true then rpS o m r.ser r.chk r.upp r.low r.clm else z14
abbrev nl : Value := .slice none 0 0
def Sgp (E : Int) (s : Sg) (w : World) (e : Ending) (w' : World) : Prop := ∃ a c, e = .returned (.tuple #[.agg (svC s nl nl nl (.slice a s.clm.length c)), .int .i64 E]) ∧ C.SOwn w' w.heap.size (.slice a s.clm.length c) s.clm ∧ Below w.heap.size w w'
def Sgq (E : Int) (s : Sg) (w : World) (e : Ending) (w' : World) : Prop := ∃ a c, e = .returned (.tuple #[.agg (svC s nl nl nl (.slice a s.clm.length c)), .int .i64 E]) ∧ CIn w' (.slice a s.clm.length c) s.clm ∧ Below w.heap.size w w'
theorem Sgp.q {E : Int} {s : Sg} {w w' : World} {e : Ending} (h : Sgp E s w e w') (hs : s.clm.length ≤ 1048576) : Sgq E s w e w' := by
  obtain ⟨a, c, he, ho, hb⟩ := h
  exact ⟨a, c, he, cin_own ho hs, hb⟩
set_option maxRecDepth 100000 in
set_option maxHeartbeats 4000000 in
theorem segment5_s (o m : Int) (r : Rr) (a : Option Addr) (n c : Nat) (hn : r.clm.length = n) (w : World) (hC : CIn w (.slice a n c) r.clm) (hs : ¬ ((1 ≤ o ∧ o ≤ 4611686018427387903) ∧ (1 ≤ m ∧ m ≤ 4611686018427387902))) :
    Calls Tryd.prog 37 #[.agg #[.int .i64 o, .int .i64 m], .agg (rpA r n a c)] w fun e w' => e = .returned (.tuple #[.agg zsC, .int .i64 1]) ∧ Below w.heap.size w w' := by
  obtain ⟨W, hW⟩ : ∃ W, ((w.alloc (.cells #[.int .i64 o, .int .i64 m] 23)).alloc (.cells (rpA r n a c) 75)).alloc (.cells zsC 81) = W := ⟨_, rfl⟩
  have HWe : Hid (_ = W) := hW
  have hbW : Below w.heap.size w W := by rw [← hW]; exact (((Below.refl _ _).alloc (Nat.le_refl _) _).alloc (by simp) _).alloc (by simp; omega) _
  have HBW : Hid (Below w.heap.size w W) := hbW
  have r0 : W.heap[w.heap.size]? = some (.cells #[.int .i64 o, .int .i64 m] 23 (0, 0)) := by rw [← hW]; exact al_old (al_old (al_new _ _))
  have r1 : W.heap[w.heap.size + 1]? = some (.cells (rpA r n a c) 75 (0, 0)) := by
    rw [← hW]
    have := al_new (w.alloc (.cells #[.int .i64 o, .int .i64 m] 23)) (.cells (rpA r n a c) 75)
    rw [World.size_alloc] at this
    exact al_old this
  have r2 : W.heap[w.heap.size + 1 + 1]? = some (.cells zsC 81 (0, 0)) := by
    rw [← hW]
    have := al_new ((w.alloc (.cells #[.int .i64 o, .int .i64 m] 23)).alloc (.cells (rpA r n a c) 75)) (.cells zsC 81)
    rw [World.size_alloc, World.size_alloc] at this
    exact this
  have HRb : Hid (∀ V, Below W.heap.size W V → (V.cell? ⟨w.heap.size, 0, none⟩ = some (.int .i64 o) ∧ V.cell? ⟨w.heap.size, 1, none⟩ = some (.int .i64 m)) ∧ (V.cell? ⟨w.heap.size + 1, 0, none⟩ = some (.int .i64 r.ser) ∧ V.cell? ⟨w.heap.size + 1, 1, none⟩ = some (.int .i64 r.chk) ∧ V.cell? ⟨w.heap.size + 1, 2, none⟩ = some (.int .i64 r.upp) ∧ V.cell? ⟨w.heap.size + 1, 3, none⟩ = some (.int .i64 r.low) ∧ V.cell? ⟨w.heap.size + 1, 4, none⟩ = some (.slice a n c)) ∧ V.heap[w.heap.size + 1 + 1]? = some (.cells zsC 81 (0, 0))) := fun V hV => by
    have s0 := (hV.block _ (Array.getElem?_eq_some_iff.1 r0).1).trans r0
    have s1 := (hV.block _ (Array.getElem?_eq_some_iff.1 r1).1).trans r1
    have s2 := (hV.block _ (Array.getElem?_eq_some_iff.1 r2).1).trans r2
    exact ⟨⟨(cell_of_row _ _ _ _ _ _ s0).trans rfl, (cell_of_row _ _ _ _ _ _ s0).trans rfl⟩, ⟨(cell_of_row _ _ _ _ _ _ s1).trans rfl, (cell_of_row _ _ _ _ _ _ s1).trans rfl, (cell_of_row _ _ _ _ _ _ s1).trans rfl, (cell_of_row _ _ _ _ _ _ s1).trans rfl, (cell_of_row _ _ _ _ _ _ s1).trans rfl⟩, s2⟩
  have hS := session5_any o m W
  rw [decide_eq_false hs] at hS
  obtain ⟨⟨s0, s1⟩, ⟨y0, y1, y2, y3, y4⟩, _⟩ := HRb.out W (Below.refl _ _)
  clear hW hbW hC hn r0 r1 r2 hs
  go_enter Tryd.func37, Tryd.ntmps37
  go_wp2_with fail
  rw [HWe.out]
  refine hS.mono ?_
  rintro e w1 ⟨rfl, hb1⟩
  have HB1 : Hid (Below W.heap.size W w1) := hb1
  clear s0 s1 y0 y1 y2 y3 y4 hS
  obtain ⟨⟨s0, s1⟩, ⟨y0, y1, y2, y3, y4⟩, _⟩ := HRb.out w1 hb1
  clear hb1
  have hz := (HRb.out w1 HB1.out).2.2
  have hst : Stor2 Tryd.prog 81 w1 (.pointer (some ⟨w.heap.size + 1 + 1, 0, none⟩)) (.agg zsC) := ⟨w.heap.size + 1 + 1, _, _, _, rfl, rfl, hz, rfl, size_sg2, by simp [Value.oneCell']⟩
  have HRw : Hid ((w1.setRow (w.heap.size + 1 + 1) zsC).heap[w.heap.size + 1 + 1]? = some (.cells zsC 81 (0, 0))) := setRow_heap _ _ _ _ _ _ hz
  have HEb : Hid (Below w.heap.size w (w1.setRow (w.heap.size + 1 + 1) zsC)) := bl_setRow2 (HBW.out.trans (HB1.out.mono HBW.out.size)) (by omega) _
  clear hz
  go_wp2
  have hlv := fun j => cell_of_row _ (w.heap.size + 1 + 1) j _ _ _ HRw.out
  refine bodyPost_ret (v := .tuple #[.agg zsC, .int .i64 1]) (by simp [results, Tryd.results37, go_sem, hlv]) rfl ?_
  exact ⟨rfl, HEb.out⟩
set_option maxRecDepth 100000 in
set_option maxHeartbeats 4000000 in
theorem segment5_m (o m : Int) (r : Rr) (a : Option Addr) (n c : Nat) (hn : r.clm.length = n) (w : World) (hC : CIn w (.slice a n c) r.clm) (hs : ((1 ≤ o ∧ o ≤ 4611686018427387903) ∧ (1 ≤ m ∧ m ≤ 4611686018427387902))) (hm : mb5 r = false) :
    Calls Tryd.prog 37 #[.agg #[.int .i64 o, .int .i64 m], .agg (rpA r n a c)] w fun e w' => e = .returned (.tuple #[.agg zsC, .int .i64 50]) ∧ Below w.heap.size w w' := by
  obtain ⟨W, hW⟩ : ∃ W, ((w.alloc (.cells #[.int .i64 o, .int .i64 m] 23)).alloc (.cells (rpA r n a c) 75)).alloc (.cells zsC 81) = W := ⟨_, rfl⟩
  have HWe : Hid (_ = W) := hW
  have hbW : Below w.heap.size w W := by rw [← hW]; exact (((Below.refl _ _).alloc (Nat.le_refl _) _).alloc (by simp) _).alloc (by simp; omega) _
  have HBW : Hid (Below w.heap.size w W) := hbW
  have r0 : W.heap[w.heap.size]? = some (.cells #[.int .i64 o, .int .i64 m] 23 (0, 0)) := by rw [← hW]; exact al_old (al_old (al_new _ _))
  have r1 : W.heap[w.heap.size + 1]? = some (.cells (rpA r n a c) 75 (0, 0)) := by
    rw [← hW]
    have := al_new (w.alloc (.cells #[.int .i64 o, .int .i64 m] 23)) (.cells (rpA r n a c) 75)
    rw [World.size_alloc] at this
    exact al_old this
  have r2 : W.heap[w.heap.size + 1 + 1]? = some (.cells zsC 81 (0, 0)) := by
    rw [← hW]
    have := al_new ((w.alloc (.cells #[.int .i64 o, .int .i64 m] 23)).alloc (.cells (rpA r n a c) 75)) (.cells zsC 81)
    rw [World.size_alloc, World.size_alloc] at this
    exact this
  have HRb : Hid (∀ V, Below W.heap.size W V → (V.cell? ⟨w.heap.size, 0, none⟩ = some (.int .i64 o) ∧ V.cell? ⟨w.heap.size, 1, none⟩ = some (.int .i64 m)) ∧ (V.cell? ⟨w.heap.size + 1, 0, none⟩ = some (.int .i64 r.ser) ∧ V.cell? ⟨w.heap.size + 1, 1, none⟩ = some (.int .i64 r.chk) ∧ V.cell? ⟨w.heap.size + 1, 2, none⟩ = some (.int .i64 r.upp) ∧ V.cell? ⟨w.heap.size + 1, 3, none⟩ = some (.int .i64 r.low) ∧ V.cell? ⟨w.heap.size + 1, 4, none⟩ = some (.slice a n c)) ∧ V.heap[w.heap.size + 1 + 1]? = some (.cells zsC 81 (0, 0))) := fun V hV => by
    have s0 := (hV.block _ (Array.getElem?_eq_some_iff.1 r0).1).trans r0
    have s1 := (hV.block _ (Array.getElem?_eq_some_iff.1 r1).1).trans r1
    have s2 := (hV.block _ (Array.getElem?_eq_some_iff.1 r2).1).trans r2
    exact ⟨⟨(cell_of_row _ _ _ _ _ _ s0).trans rfl, (cell_of_row _ _ _ _ _ _ s0).trans rfl⟩, ⟨(cell_of_row _ _ _ _ _ _ s1).trans rfl, (cell_of_row _ _ _ _ _ _ s1).trans rfl, (cell_of_row _ _ _ _ _ _ s1).trans rfl, (cell_of_row _ _ _ _ _ _ s1).trans rfl, (cell_of_row _ _ _ _ _ _ s1).trans rfl⟩, s2⟩
  have hS := session5_any o m W
  rw [decide_eq_true hs] at hS
  have HMy : Hid (∀ V, Below W.heap.size W V → Calls Tryd.prog 90 #[.agg (rpA r n a c)] V fun e w' => e = .returned (.bool false) ∧ Below V.heap.size V w') := fun V hV => by
    have := mayBe5_any r a n c hn V ((hC.below hbW).below hV)
    rw [hm] at this
    exact this
  obtain ⟨⟨s0, s1⟩, ⟨y0, y1, y2, y3, y4⟩, _⟩ := HRb.out W (Below.refl _ _)
  clear hW hbW hC hn r0 r1 r2 hs hm
  go_enter Tryd.func37, Tryd.ntmps37
  go_wp2_with fail
  rw [HWe.out]
  refine hS.mono ?_
  rintro e w1 ⟨rfl, hb1⟩
  have HB1 : Hid (Below W.heap.size W w1) := hb1
  clear s0 s1 y0 y1 y2 y3 y4 hS
  obtain ⟨⟨s0, s1⟩, ⟨y0, y1, y2, y3, y4⟩, _⟩ := HRb.out w1 hb1
  clear hb1
  have hMy := HMy.out w1 HB1.out
  go_wp2_with fail
  refine hMy.mono ?_
  rintro e w2 ⟨rfl, hb2⟩
  have HB2 : Hid (Below W.heap.size W w2) := HB1.out.trans (hb2.mono HB1.out.size)
  clear s0 s1 y0 y1 y2 y3 y4 hMy hb2
  have hz := (HRb.out w2 HB2.out).2.2
  have hst : Stor2 Tryd.prog 81 w2 (.pointer (some ⟨w.heap.size + 1 + 1, 0, none⟩)) (.agg zsC) := ⟨w.heap.size + 1 + 1, _, _, _, rfl, rfl, hz, rfl, size_sg2, by simp [Value.oneCell']⟩
  have HRw : Hid ((w2.setRow (w.heap.size + 1 + 1) zsC).heap[w.heap.size + 1 + 1]? = some (.cells zsC 81 (0, 0))) := setRow_heap _ _ _ _ _ _ hz
  have HEb : Hid (Below w.heap.size w (w2.setRow (w.heap.size + 1 + 1) zsC)) := bl_setRow2 (HBW.out.trans (HB2.out.mono HBW.out.size)) (by omega) _
  clear hz
  go_wp2
  have hlv := fun j => cell_of_row _ (w.heap.size + 1 + 1) j _ _ _ HRw.out
  refine bodyPost_ret (v := .tuple #[.agg zsC, .int .i64 50]) (by simp [results, Tryd.results37, go_sem, hlv]) rfl ?_
  exact ⟨rfl, HEb.out⟩
set_option maxRecDepth 100000 in
set_option maxHeartbeats 4000000 in
theorem rqSegment_s (o m : Int) (r : Rr) (a : Option Addr) (n c : Nat) (hn : r.clm.length = n) (w : World) (hC : CIn w (.slice a n c) r.clm) (hs : ¬ ((1 ≤ o ∧ o ≤ 4611686018427387903) ∧ (1 ≤ m ∧ m ≤ 4611686018427387902))) :
    Calls Tryd.prog 34 #[.agg #[.int .i64 o, .int .i64 m], .agg (rpA r n a c)] w fun e w' => e = .returned (.tuple #[.agg zsC, .int .i64 1]) ∧ Below w.heap.size w w' := by
  obtain ⟨W, hW⟩ : ∃ W, ((w.alloc (.cells #[.int .i64 o, .int .i64 m] 23)).alloc (.cells (rpA r n a c) 75)).alloc (.cells zsC 81) = W := ⟨_, rfl⟩
  have HWe : Hid (_ = W) := hW
  have hbW : Below w.heap.size w W := by rw [← hW]; exact (((Below.refl _ _).alloc (Nat.le_refl _) _).alloc (by simp) _).alloc (by simp; omega) _
  have HBW : Hid (Below w.heap.size w W) := hbW
  have r0 : W.heap[w.heap.size]? = some (.cells #[.int .i64 o, .int .i64 m] 23 (0, 0)) := by rw [← hW]; exact al_old (al_old (al_new _ _))
  have r1 : W.heap[w.heap.size + 1]? = some (.cells (rpA r n a c) 75 (0, 0)) := by
    rw [← hW]
    have := al_new (w.alloc (.cells #[.int .i64 o, .int .i64 m] 23)) (.cells (rpA r n a c) 75)
    rw [World.size_alloc] at this
    exact al_old this
  have r2 : W.heap[w.heap.size + 1 + 1]? = some (.cells zsC 81 (0, 0)) := by
    rw [← hW]
    have := al_new ((w.alloc (.cells #[.int .i64 o, .int .i64 m] 23)).alloc (.cells (rpA r n a c) 75)) (.cells zsC 81)
    rw [World.size_alloc, World.size_alloc] at this
    exact this
  have HRb : Hid (∀ V, Below W.heap.size W V → (V.cell? ⟨w.heap.size, 0, none⟩ = some (.int .i64 o) ∧ V.cell? ⟨w.heap.size, 1, none⟩ = some (.int .i64 m)) ∧ (V.cell? ⟨w.heap.size + 1, 0, none⟩ = some (.int .i64 r.ser) ∧ V.cell? ⟨w.heap.size + 1, 1, none⟩ = some (.int .i64 r.chk) ∧ V.cell? ⟨w.heap.size + 1, 2, none⟩ = some (.int .i64 r.upp) ∧ V.cell? ⟨w.heap.size + 1, 3, none⟩ = some (.int .i64 r.low) ∧ V.cell? ⟨w.heap.size + 1, 4, none⟩ = some (.slice a n c)) ∧ V.heap[w.heap.size + 1 + 1]? = some (.cells zsC 81 (0, 0))) := fun V hV => by
    have s0 := (hV.block _ (Array.getElem?_eq_some_iff.1 r0).1).trans r0
    have s1 := (hV.block _ (Array.getElem?_eq_some_iff.1 r1).1).trans r1
    have s2 := (hV.block _ (Array.getElem?_eq_some_iff.1 r2).1).trans r2
    exact ⟨⟨(cell_of_row _ _ _ _ _ _ s0).trans rfl, (cell_of_row _ _ _ _ _ _ s0).trans rfl⟩, ⟨(cell_of_row _ _ _ _ _ _ s1).trans rfl, (cell_of_row _ _ _ _ _ _ s1).trans rfl, (cell_of_row _ _ _ _ _ _ s1).trans rfl, (cell_of_row _ _ _ _ _ _ s1).trans rfl, (cell_of_row _ _ _ _ _ _ s1).trans rfl⟩, s2⟩
  have hS := rqSession_any o m W
  rw [decide_eq_false hs] at hS
  obtain ⟨⟨s0, s1⟩, ⟨y0, y1, y2, y3, y4⟩, _⟩ := HRb.out W (Below.refl _ _)
  clear hW hbW hC hn r0 r1 r2 hs
  go_enter Tryd.func34, Tryd.ntmps34
  go_wp2_with fail
  rw [HWe.out]
  refine hS.mono ?_
  rintro e w1 ⟨rfl, hb1⟩
  have HB1 : Hid (Below W.heap.size W w1) := hb1
  clear s0 s1 y0 y1 y2 y3 y4 hS
  obtain ⟨⟨s0, s1⟩, ⟨y0, y1, y2, y3, y4⟩, _⟩ := HRb.out w1 hb1
  clear hb1
  have hz := (HRb.out w1 HB1.out).2.2
  have hst : Stor2 Tryd.prog 81 w1 (.pointer (some ⟨w.heap.size + 1 + 1, 0, none⟩)) (.agg zsC) := ⟨w.heap.size + 1 + 1, _, _, _, rfl, rfl, hz, rfl, size_sg2, by simp [Value.oneCell']⟩
  have HRw : Hid ((w1.setRow (w.heap.size + 1 + 1) zsC).heap[w.heap.size + 1 + 1]? = some (.cells zsC 81 (0, 0))) := setRow_heap _ _ _ _ _ _ hz
  have HEb : Hid (Below w.heap.size w (w1.setRow (w.heap.size + 1 + 1) zsC)) := bl_setRow2 (HBW.out.trans (HB1.out.mono HBW.out.size)) (by omega) _
  clear hz
  go_wp2
  have hlv := fun j => cell_of_row _ (w.heap.size + 1 + 1) j _ _ _ HRw.out
  refine bodyPost_ret (v := .tuple #[.agg zsC, .int .i64 1]) (by simp [results, Tryd.results34, go_sem, hlv]) rfl ?_
  exact ⟨rfl, HEb.out⟩
set_option maxRecDepth 100000 in
set_option maxHeartbeats 4000000 in
theorem rqSegment_m (o m : Int) (r : Rr) (a : Option Addr) (n c : Nat) (hn : r.clm.length = n) (w : World) (hC : CIn w (.slice a n c) r.clm) (hs : ((1 ≤ o ∧ o ≤ 4611686018427387903) ∧ (1 ≤ m ∧ m ≤ 4611686018427387902))) (hm : mb5 r = false) :
    Calls Tryd.prog 34 #[.agg #[.int .i64 o, .int .i64 m], .agg (rpA r n a c)] w fun e w' => e = .returned (.tuple #[.agg zsC, .int .i64 50]) ∧ Below w.heap.size w w' := by
  obtain ⟨W, hW⟩ : ∃ W, ((w.alloc (.cells #[.int .i64 o, .int .i64 m] 23)).alloc (.cells (rpA r n a c) 75)).alloc (.cells zsC 81) = W := ⟨_, rfl⟩
  have HWe : Hid (_ = W) := hW
  have hbW : Below w.heap.size w W := by rw [← hW]; exact (((Below.refl _ _).alloc (Nat.le_refl _) _).alloc (by simp) _).alloc (by simp; omega) _
  have HBW : Hid (Below w.heap.size w W) := hbW
  have r0 : W.heap[w.heap.size]? = some (.cells #[.int .i64 o, .int .i64 m] 23 (0, 0)) := by rw [← hW]; exact al_old (al_old (al_new _ _))
  have r1 : W.heap[w.heap.size + 1]? = some (.cells (rpA r n a c) 75 (0, 0)) := by
    rw [← hW]
    have := al_new (w.alloc (.cells #[.int .i64 o, .int .i64 m] 23)) (.cells (rpA r n a c) 75)
    rw [World.size_alloc] at this
    exact al_old this
  have r2 : W.heap[w.heap.size + 1 + 1]? = some (.cells zsC 81 (0, 0)) := by
    rw [← hW]
    have := al_new ((w.alloc (.cells #[.int .i64 o, .int .i64 m] 23)).alloc (.cells (rpA r n a c) 75)) (.cells zsC 81)
    rw [World.size_alloc, World.size_alloc] at this
    exact this
  have HRb : Hid (∀ V, Below W.heap.size W V → (V.cell? ⟨w.heap.size, 0, none⟩ = some (.int .i64 o) ∧ V.cell? ⟨w.heap.size, 1, none⟩ = some (.int .i64 m)) ∧ (V.cell? ⟨w.heap.size + 1, 0, none⟩ = some (.int .i64 r.ser) ∧ V.cell? ⟨w.heap.size + 1, 1, none⟩ = some (.int .i64 r.chk) ∧ V.cell? ⟨w.heap.size + 1, 2, none⟩ = some (.int .i64 r.upp) ∧ V.cell? ⟨w.heap.size + 1, 3, none⟩ = some (.int .i64 r.low) ∧ V.cell? ⟨w.heap.size + 1, 4, none⟩ = some (.slice a n c)) ∧ V.heap[w.heap.size + 1 + 1]? = some (.cells zsC 81 (0, 0))) := fun V hV => by
    have s0 := (hV.block _ (Array.getElem?_eq_some_iff.1 r0).1).trans r0
    have s1 := (hV.block _ (Array.getElem?_eq_some_iff.1 r1).1).trans r1
    have s2 := (hV.block _ (Array.getElem?_eq_some_iff.1 r2).1).trans r2
    exact ⟨⟨(cell_of_row _ _ _ _ _ _ s0).trans rfl, (cell_of_row _ _ _ _ _ _ s0).trans rfl⟩, ⟨(cell_of_row _ _ _ _ _ _ s1).trans rfl, (cell_of_row _ _ _ _ _ _ s1).trans rfl, (cell_of_row _ _ _ _ _ _ s1).trans rfl, (cell_of_row _ _ _ _ _ _ s1).trans rfl, (cell_of_row _ _ _ _ _ _ s1).trans rfl⟩, s2⟩
  have hS := rqSession_any o m W
  rw [decide_eq_true hs] at hS
  have HMy : Hid (∀ V, Below W.heap.size W V → Calls Tryd.prog 85 #[.agg (rpA r n a c)] V fun e w' => e = .returned (.bool false) ∧ Below V.heap.size V w') := fun V hV => by
    have := rqMay_any r a n c hn V ((hC.below hbW).below hV)
    rw [hm] at this
    exact this
  obtain ⟨⟨s0, s1⟩, ⟨y0, y1, y2, y3, y4⟩, _⟩ := HRb.out W (Below.refl _ _)
  clear hW hbW hC hn r0 r1 r2 hs hm
  go_enter Tryd.func34, Tryd.ntmps34
  go_wp2_with fail
  rw [HWe.out]
  refine hS.mono ?_
  rintro e w1 ⟨rfl, hb1⟩
  have HB1 : Hid (Below W.heap.size W w1) := hb1
  clear s0 s1 y0 y1 y2 y3 y4 hS
  obtain ⟨⟨s0, s1⟩, ⟨y0, y1, y2, y3, y4⟩, _⟩ := HRb.out w1 hb1
  clear hb1
  have hMy := HMy.out w1 HB1.out
  go_wp2_with fail
  refine hMy.mono ?_
  rintro e w2 ⟨rfl, hb2⟩
  have HB2 : Hid (Below W.heap.size W w2) := HB1.out.trans (hb2.mono HB1.out.size)
  clear s0 s1 y0 y1 y2 y3 y4 hMy hb2
  have hz := (HRb.out w2 HB2.out).2.2
  have hst : Stor2 Tryd.prog 81 w2 (.pointer (some ⟨w.heap.size + 1 + 1, 0, none⟩)) (.agg zsC) := ⟨w.heap.size + 1 + 1, _, _, _, rfl, rfl, hz, rfl, size_sg2, by simp [Value.oneCell']⟩
  have HRw : Hid ((w2.setRow (w.heap.size + 1 + 1) zsC).heap[w.heap.size + 1 + 1]? = some (.cells zsC 81 (0, 0))) := setRow_heap _ _ _ _ _ _ hz
  have HEb : Hid (Below w.heap.size w (w2.setRow (w.heap.size + 1 + 1) zsC)) := bl_setRow2 (HBW.out.trans (HB2.out.mono HBW.out.size)) (by omega) _
  clear hz
  go_wp2
  have hlv := fun j => cell_of_row _ (w.heap.size + 1 + 1) j _ _ _ HRw.out
  refine bodyPost_ret (v := .tuple #[.agg zsC, .int .i64 50]) (by simp [results, Tryd.results34, go_sem, hlv]) rfl ?_
  exact ⟨rfl, HEb.out⟩
theorem qu_ok {o m : Int} (hs : (1 ≤ o ∧ o ≤ 4611686018427387903) ∧ (1 ≤ m ∧ m ≤ 4611686018427387902)) : Qu.Ok ⟨o, m, 80, 0, 0⟩ :=
  ⟨hs.1, hs.2, (by show (80 : Int) ≤ 80 ∧ (80 : Int) ≤ 4096; omega), (by show (0 : Int) ≤ 0 ∧ (0 : Int) ≤ 4611686018427387903; omega), (by show (0 : Int) ≤ 65536; omega)⟩
theorem own_nil2 (w : World) (b : Nat) : C.SOwn w b nl [] := C.SOwn.nil _ _
/-- report.Segment of any session and report. -/
theorem segment5_any (o m : Int) (r : Rr) (a : Option Addr) (n c : Nat) (hn : r.clm.length = n) (hnc : n ≤ c) (hcc : c ≤ 9223372036854775807) (w : World) (hC : CIn w (.slice a n c) r.clm) :
    Calls Tryd.prog 37 #[.agg #[.int .i64 o, .int .i64 m], .agg (rpA r n a c)] w (Sgp (sgE o m r) (sgR o m r) w) := by
  by_cases hs : ((1 ≤ o ∧ o ≤ 4611686018427387903) ∧ (1 ≤ m ∧ m ≤ 4611686018427387902))
  · by_cases hm : mb5 r = true
    · have e1 : sgE o m r = 0 := by unfold sgE; rw [if_pos hs, if_pos hm]
      have e2 : sgR o m r = rpS o m r.ser r.chk r.upp r.low r.clm := by unfold sgR; rw [if_pos ⟨hs, hm⟩]
      rw [e1, e2]
      refine (segment5_own ⟨o, m, 80, 0, 0⟩ (qu_ok hs) r (mb5_ok hm) a n c hn hnc hcc w hC).mono ?_
      rintro e w' ⟨a', c', he, ho, hb⟩
      subst hn
      exact ⟨a', c', he, ho, hb⟩
    · have hm' : mb5 r = false := by simpa using hm
      have e1 : sgE o m r = 50 := by unfold sgE; rw [if_pos hs, if_neg hm]
      have e2 : sgR o m r = z14 := by unfold sgR; rw [if_neg (fun h => hm h.2)]
      rw [e1, e2]
      exact (segment5_m o m r a n c hn w hC hs hm').mono fun e w' h => ⟨none, 0, h.1, own_nil2 _ _, h.2⟩
  · have e1 : sgE o m r = 1 := by unfold sgE; rw [if_neg hs]
    have e2 : sgR o m r = z14 := by unfold sgR; rw [if_neg (fun h => hs h.1)]
    rw [e1, e2]
    exact (segment5_s o m r a n c hn w hC hs).mono fun e w' h => ⟨none, 0, h.1, own_nil2 _ _, h.2⟩
/-- The reference's. -/
theorem rqSegment_any (o m : Int) (r : Rr) (a : Option Addr) (n c : Nat) (hn : r.clm.length = n) (w : World) (hC : CIn w (.slice a n c) r.clm) :
    Calls Tryd.prog 34 #[.agg #[.int .i64 o, .int .i64 m], .agg (rpA r n a c)] w (Sgq (sgE o m r) (sgR o m r) w) := by
  by_cases hs : ((1 ≤ o ∧ o ≤ 4611686018427387903) ∧ (1 ≤ m ∧ m ≤ 4611686018427387902))
  · by_cases hm : mb5 r = true
    · have e1 : sgE o m r = 0 := by unfold sgE; rw [if_pos hs, if_pos hm]
      have e2 : sgR o m r = rpS o m r.ser r.chk r.upp r.low r.clm := by unfold sgR; rw [if_pos ⟨hs, hm⟩]
      rw [e1, e2]
      refine (rqSegment_ok ⟨o, m, 80, 0, 0⟩ (qu_ok hs) r (mb5_ok hm) a n c hn w hC).mono ?_
      rintro e w' ⟨a', c', he, ho, hb⟩
      subst hn
      exact ⟨a', c', he, ho, hb⟩
    · have hm' : mb5 r = false := by simpa using hm
      have e1 : sgE o m r = 50 := by unfold sgE; rw [if_pos hs, if_neg hm]
      have e2 : sgR o m r = z14 := by unfold sgR; rw [if_neg (fun h => hm h.2)]
      rw [e1, e2]
      exact (rqSegment_m o m r a n c hn w hC hs hm').mono fun e w' h => ⟨none, 0, h.1, cin_own (own_nil2 _ 0) (Nat.zero_le _), h.2⟩
  · have e1 : sgE o m r = 1 := by unfold sgE; rw [if_neg hs]
    have e2 : sgR o m r = z14 := by unfold sgR; rw [if_neg (fun h => hs h.1)]
    rw [e1, e2]
    exact (rqSegment_s o m r a n c hn w hC hs).mono fun e w' h => ⟨none, 0, h.1, cin_own (own_nil2 _ 0) (Nat.zero_le _), h.2⟩

end Go.Proofs.YtkkmoplijicmpaeDoor
