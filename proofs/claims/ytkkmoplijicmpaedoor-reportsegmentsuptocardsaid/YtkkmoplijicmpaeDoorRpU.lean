import Derived.Test.YtkkmoplijicmpaeDoorRpF
import Derived.Test.YtkkmoplijicmpaeDoorRpV
import Derived.Deep.LoopGhost
import Derived.Test.YtkkmoplijicmpaeDoorRpM
namespace Go.Proofs.YtkkmoplijicmpaeDoor
open Go.RowKit
set_option linter.unusedVariables false

theorem cin_take {w : World} {a : Option Addr} {m c n : Nat} {l : List (Int × Int)} (h : CIn w (.slice a m c) l) (hn : n ≤ l.length) : CIn w (.slice a n c) (l.take n) := by
  obtain ⟨a', c', hv, hs⟩ := h.shape
  simp only [Value.slice.injEq] at hv
  obtain ⟨rfl, rfl, rfl⟩ := hv
  refine ⟨⟨a, c, by rw [List.length_take]; congr 1; omega, ?_⟩, by have := h.small; rw [List.length_take]; omega⟩
  rcases hs with rfl | ⟨g, off, ha, hs⟩
  · exact .inl (by simp)
  · refine .inr ⟨g, off, ha, fun i p hp => hs i p ?_⟩
    rw [List.getElem?_take] at hp
    split at hp
    · exact hp
    · cases hp
abbrev alC (k : Qu) (lo sr : Int) : Array Value := #[.int .i64 sr, .int .i64 k.chk, .int .i64 k.upp, .int .i64 lo, .slice none 0 0]
/-- The report with the next n claims. -/
theorem with5 (Ba Bl g off c n : Nat) (k : Qu) (lo sr : Int) (l : List (Int × Int)) (V : World) (ha : V.heap[Ba]? = some (.cells (alC k lo sr) 75 (0, 0))) (hl : V.cell? ⟨Bl, 0, none⟩ = some (.slice (some ⟨g, off, none⟩) l.length c)) (hm : l.length ≤ c) (hn : n ≤ l.length) (hC : CIn V (.slice (some ⟨g, off, none⟩) l.length c) l) :
    Calls Tryd.prog 146 #[.int .i64 (n : Nat), .pointer (some ⟨Ba, 0, none⟩), .pointer (some ⟨Bl, 0, none⟩)] V fun e w' => e = .returned (.agg #[.int .i64 sr, .int .i64 k.chk, .int .i64 (upA k.upp l n), .int .i64 lo, .slice (some ⟨g, off, none⟩) n c]) ∧ Below V.heap.size V w' := by
  rcases Nat.lt_or_ge n l.length with h | h
  · obtain ⟨p, hp⟩ := get_one l n h
    obtain ⟨g', off', he, c0, _⟩ := hC.at hp
    cases he
    have := fill1_mid Ba Bl sr k.chk k.upp lo p.1 g off l.length c n V ha hl hm h c0
    rw [show upA k.upp l n = p.1 by simp [upA, hp]]
    exact this
  · obtain rfl : n = l.length := by omega
    rw [show upA k.upp l l.length = k.upp by simp [upA]]
    exact fill1_last Ba Bl sr k.chk k.upp lo _ l.length c V ha hl hm

/-- What fill answers. -/
def FillP (N : Nat) (k : Qu) (lo sr : Int) (l : List (Int × Int)) (w : World) (e : Ending) (w' : World) : Prop :=
  ∃ n a c, NR (fit5 k lo sr l) N n ∧ e = .returned (.agg #[.int .i64 sr, .int .i64 k.chk, .int .i64 (upA k.upp l n), .int .i64 lo, .slice a n c]) ∧ C.SOwn w' w.heap.size (.slice a n c) (l.take n) ∧ Below w.heap.size w w'

/-- The boxes of fill. -/
def fbx (k : Qu) (lo sr : Int) (ml g off c : Nat) (w : World) : World :=
  (((((w.alloc (.cells #[.int .i64 k.org, .int .i64 k.num] 23)).alloc (.cells #[.int .i64 k.mtu] 3)).alloc (.cells #[.slice (some ⟨g, off, none⟩) ml c] 26)).alloc (.cells (alC k lo sr) 75)).alloc (.cells #[.int .i64 0, .int .i64 0, .int .i64 0, .int .i64 0, .slice none 0 0] 75)).alloc (.cells #[.func (.func 146) #[] #[.pointer (some ⟨w.heap.size + 1 + 1 + 1, 0, none⟩), .pointer (some ⟨w.heap.size + 1 + 1, 0, none⟩)]] 181)
structure Fbx (k : Qu) (lo sr : Int) (ml g off c B : Nat) (w V : World) : Prop where
  bel : Below w.heap.size w V
  s : V.heap[B]? = some (.cells #[.int .i64 k.org, .int .i64 k.num] 23 (0, 0))
  m : V.heap[B + 1]? = some (.cells #[.int .i64 k.mtu] 3 (0, 0))
  l : V.heap[B + 2]? = some (.cells #[.slice (some ⟨g, off, none⟩) ml c] 26 (0, 0))
  a : V.heap[B + 3]? = some (.cells (alC k lo sr) 75 (0, 0))
  r : V.heap[B + 4]? = some (.cells #[.int .i64 0, .int .i64 0, .int .i64 0, .int .i64 0, .slice none 0 0] 75 (0, 0))
  w : V.heap[B + 5]? = some (.cells #[.func (.func 146) #[] #[.pointer (some ⟨B + 3, 0, none⟩), .pointer (some ⟨B + 2, 0, none⟩)]] 181 (0, 0))
theorem fbx_is (k : Qu) (lo sr : Int) (ml g off c : Nat) (w : World) : Fbx k lo sr ml g off c w.heap.size w (fbx k lo sr ml g off c w) := by
  refine ⟨?_, ?_, ?_, ?_, ?_, ?_, ?_⟩
  · unfold fbx
    exact ((((((Below.refl _ _).alloc (Nat.le_refl _) _).alloc (by simp) _).alloc (by simp; omega) _).alloc (by simp; omega) _).alloc (by simp; omega) _).alloc (by simp; omega) _
  · exact al_old (al_old (al_old (al_old (al_old (al_new _ _)))))
  · have := al_new (w.alloc (.cells #[.int .i64 k.org, .int .i64 k.num] 23)) (.cells #[.int .i64 k.mtu] 3)
    rw [World.size_alloc] at this
    exact al_old (al_old (al_old (al_old (this))))
  · have := al_new ((w.alloc (.cells #[.int .i64 k.org, .int .i64 k.num] 23)).alloc (.cells #[.int .i64 k.mtu] 3)) (.cells #[.slice (some ⟨g, off, none⟩) ml c] 26)
    rw [World.size_alloc, World.size_alloc] at this
    exact al_old (al_old (al_old (this)))
  · have := al_new (((w.alloc (.cells #[.int .i64 k.org, .int .i64 k.num] 23)).alloc (.cells #[.int .i64 k.mtu] 3)).alloc (.cells #[.slice (some ⟨g, off, none⟩) ml c] 26)) (.cells (alC k lo sr) 75)
    rw [World.size_alloc, World.size_alloc, World.size_alloc] at this
    exact al_old (al_old (this))
  · have := al_new ((((w.alloc (.cells #[.int .i64 k.org, .int .i64 k.num] 23)).alloc (.cells #[.int .i64 k.mtu] 3)).alloc (.cells #[.slice (some ⟨g, off, none⟩) ml c] 26)).alloc (.cells (alC k lo sr) 75)) (.cells #[.int .i64 0, .int .i64 0, .int .i64 0, .int .i64 0, .slice none 0 0] 75)
    rw [World.size_alloc, World.size_alloc, World.size_alloc, World.size_alloc] at this
    exact al_old (this)
  · have := al_new (((((w.alloc (.cells #[.int .i64 k.org, .int .i64 k.num] 23)).alloc (.cells #[.int .i64 k.mtu] 3)).alloc (.cells #[.slice (some ⟨g, off, none⟩) ml c] 26)).alloc (.cells (alC k lo sr) 75)).alloc (.cells #[.int .i64 0, .int .i64 0, .int .i64 0, .int .i64 0, .slice none 0 0] 75)) (.cells #[.func (.func 146) #[] #[.pointer (some ⟨w.heap.size + 1 + 1 + 1, 0, none⟩), .pointer (some ⟨w.heap.size + 1 + 1, 0, none⟩)]] 181)
    rw [World.size_alloc, World.size_alloc, World.size_alloc, World.size_alloc, World.size_alloc] at this
    exact this
theorem Fbx.below {k : Qu} {lo sr : Int} {ml g off c B : Nat} {w V V' : World} (h : Fbx k lo sr ml g off c B w V) (hb : Below V.heap.size V V') : Fbx k lo sr ml g off c B w V' := by
  have e : ∀ {j : Nat} {o : Obj}, V.heap[j]? = some o → V'.heap[j]? = some o := fun {j o} hj => (hb.block j (Array.getElem?_eq_some_iff.1 hj).1).trans hj
  exact ⟨h.bel.trans (hb.mono h.bel.size), e h.s, e h.m, e h.l, e h.a, e h.r, e h.w⟩

theorem fill_end {N n c3 b1 : Nat} {k : Qu} {lo sr : Int} {l : List (Int × Int)} {a3 : Option Addr} {w W2 w3 : World} {x0 x1 x2 x3 x4 x5 : Value} (hb : Below w.heap.size w w3) (hs : C.SOwn w3 W2.heap.size (.slice a3 n c3) (l.take n)) (hz : W2.heap.size = b1 + 1 ∧ w.heap.size + 4 < b1) (hN : NR (fit5 k lo sr l) N n) :
    FillP N k lo sr l w (.returned (.agg #[.int .i64 sr, .int .i64 k.chk, .int .i64 (upA k.upp l n), .int .i64 lo, .slice a3 n c3])) ((((((w3.setCell ⟨b1, 4, none⟩ x0).setCell ⟨w.heap.size + 1 + 1 + 1 + 1, 0, none⟩ x1).setCell ⟨w.heap.size + 1 + 1 + 1 + 1, 1, none⟩ x2).setCell ⟨w.heap.size + 1 + 1 + 1 + 1, 2, none⟩ x3).setCell ⟨w.heap.size + 1 + 1 + 1 + 1, 3, none⟩ x4).setCell ⟨w.heap.size + 1 + 1 + 1 + 1, 4, none⟩ x5) := by
  refine ⟨n, a3, c3, hN, rfl, own_low5 (hs.blk2 fun g hg => ?_) (by omega), ?_⟩
  · have := (hs.lt g hg).1
    rw [Below.heap_setCell _ _ _ _ (by show g ≠ w.heap.size + 1 + 1 + 1 + 1; omega), Below.heap_setCell _ _ _ _ (by show g ≠ w.heap.size + 1 + 1 + 1 + 1; omega), Below.heap_setCell _ _ _ _ (by show g ≠ w.heap.size + 1 + 1 + 1 + 1; omega), Below.heap_setCell _ _ _ _ (by show g ≠ w.heap.size + 1 + 1 + 1 + 1; omega), Below.heap_setCell _ _ _ _ (by show g ≠ w.heap.size + 1 + 1 + 1 + 1; omega), Below.heap_setCell _ _ _ _ (by show g ≠ b1; omega)]
  · exact (((((hb.setCell (by show _ ≤ b1; omega) _).setCell (by show _ ≤ w.heap.size + 1 + 1 + 1 + 1; omega) _).setCell (by show _ ≤ w.heap.size + 1 + 1 + 1 + 1; omega) _).setCell (by show _ ≤ w.heap.size + 1 + 1 + 1 + 1; omega) _).setCell (by show _ ≤ w.heap.size + 1 + 1 + 1 + 1; omega) _).setCell (by show _ ≤ w.heap.size + 1 + 1 + 1 + 1; omega) _

set_option maxRecDepth 100000 in
set_option maxHeartbeats 8000000 in
theorem fill5_any (k : Qu) (ok : k.Ok) (lo sr : Int) (l : List (Int × Int)) (g off c : Nat) (w : World) (hC : CIn w (.slice (some ⟨g, off, none⟩) l.length c) l) (hm : l.length ≤ c) (hne : l ≠ []) (hs : sr ≤ 4611686018427387903) (hb : Bg k lo sr l) (hT : Tab w) :
    Calls Tryd.prog 120 #[.agg #[.int .i64 k.org, .int .i64 k.num], .int .i64 k.mtu, .slice (some ⟨g, off, none⟩) l.length c, .agg (alC k lo sr)] w (FillP (min l.length 1000) k lo sr l w) := by
  have h0 : 0 < w.heap.size := World.block_lt_of_cell? w ⟨0, 0, none⟩ (hT 0 (by omega))
  have hsm := hC.small
  have HFB : Hid (∀ V, Fbx k lo sr l.length g off c w.heap.size w V → ∀ n, n ≤ l.length → Calls Tryd.prog 146 #[.int .i64 (n : Nat), .pointer (some ⟨w.heap.size + 3, 0, none⟩), .pointer (some ⟨w.heap.size + 2, 0, none⟩)] V fun e w' => e = .returned (.agg #[.int .i64 sr, .int .i64 k.chk, .int .i64 (upA k.upp l n), .int .i64 lo, .slice (some ⟨g, off, none⟩) n c]) ∧ Below V.heap.size V w') :=
    fun V hV n hn => with5 _ _ g off c n k lo sr l V hV.a (by rw [cell_of_row _ _ _ _ _ _ hV.l]; rfl) hm hn (hC.below hV.bel)
  have HF2 : Hid (∀ V, Fbx k lo sr l.length g off c w.heap.size w V → ∀ i, i < min l.length 1000 → Calls Tryd.prog 148 #[.int .i64 i, .pointer (some ⟨w.heap.size, 0, none⟩), .pointer (some ⟨w.heap.size + 5, 0, none⟩), .pointer (some ⟨w.heap.size + 1, 0, none⟩)] V fun e w' => e = .returned (.bool (!fit5 k lo sr l (i + 1))) ∧ Below V.heap.size V w') :=
    fun V hV i hi => fill2_any _ _ _ (w.heap.size + 3) (w.heap.size + 2) i k.org k.num k.mtu sr k.chk (upA k.upp l (i + 1)) lo (some ⟨g, off, none⟩) (i + 1) c _ V (by omega)
      (by rw [cell_of_row _ _ _ _ _ _ hV.s]; rfl) (by rw [cell_of_row _ _ _ _ _ _ hV.s]; rfl) (by rw [cell_of_row _ _ _ _ _ _ hV.w]; rfl) (by rw [cell_of_row _ _ _ _ _ _ hV.m]; rfl)
      (fun X hX => HFB.out X (hV.below hX) (i + 1) (by omega))
      (fun X hX => fits5_any k.org k.num sr k.chk (upA k.upp l (i + 1)) lo k.mtu (some ⟨g, off, none⟩) (i + 1) c (l.take (i + 1)) X (cin_take (hC.below (hV.below hX).bel) (by omega)) (hT.below (hV.below hX).bel h0))
  have HSe : Hid (∀ V, Fbx k lo sr l.length g off c w.heap.size w V → Calls Tryd.prog 147 #[.int .i64 (min l.length 1000 : Nat), .func (.func 148) #[] #[.pointer (some ⟨w.heap.size, 0, none⟩), .pointer (some ⟨w.heap.size + 5, 0, none⟩), .pointer (some ⟨w.heap.size + 1, 0, none⟩)]] V fun e w' => (∃ r : Nat, e = .returned (.int .i64 r) ∧ NR (fit5 k lo sr l) (min l.length 1000) r) ∧ Below V.heap.size V w') := fun V hV => by
    refine (search5_any _ _ _ (min l.length 1000) (fun i => !fit5 k lo sr l (i + 1)) V (by omega) (fun W i hW hi => HF2.out W (hV.below hW) i hi) (fit_search ok hb hs)).mono ?_
    rintro e w' ⟨⟨r, rfl, h1, h2, h3⟩, h4⟩
    refine ⟨⟨r, rfl, h1, fun i hi => ?_, fun hr => ?_⟩, h4⟩
    · have := h2 i hi; simpa using this
    · have := h3 r (Nat.le_refl _) hr; simpa using this
  have HNO : Hid (∀ n, NR (fit5 k lo sr l) (min l.length 1000) n → 1 ≤ n ∧ n ≤ l.length ∧ n ≤ 1000) := fun n hn => nm_one ok hb hs hne hn
  have HCl : Hid (∀ V n, Below w.heap.size w V → 1 ≤ n → n ≤ l.length → Calls Tryd.prog 64 #[.slice (some ⟨g, off, none⟩) n c] V fun e w' => ∃ v, e = .returned v ∧ C.SOwn w' V.heap.size v (l.take n) ∧ Below V.heap.size V w') := fun V n hV h1 h2 => clone5_some g off c n (l.take n) V (cin_take (hC.below hV) h2) (by simp; omega) (by simp; omega)
  have hll : 1 ≤ l.length := List.length_pos_iff.mpr hne
  have HFX : Hid (Fbx k lo sr l.length g off c w.heap.size w (fbx k lo sr l.length g off c w)) := fbx_is k lo sr l.length g off c w
  obtain ⟨V0, hV0⟩ : ∃ V0, fbx k lo sr l.length g off c w = V0 := ⟨_, rfl⟩
  rw [hV0] at HFX
  unfold fbx at hV0
  have HV0 : Hid (_ = V0) := hV0
  have hS0 := HSe.out V0 HFX.out
  clear HF2 HSe hC hT hne hs hb ok hV0
  rcases Nat.le_total l.length 1000 with hlt | hlt
  · have hle : (l.length : Int) ≤ 1000 := by omega
    have hmin : min (l.length : Int) 1000 = (l.length : Int) := by omega
    rw [show min l.length 1000 = l.length by omega] at hS0 HNO ⊢
    go_enter Tryd.func120, Tryd.ntmps120
    go_wp2_with fail
    rw [HV0.out]
    refine hS0.mono ?_
    rintro e w1 ⟨⟨n, rfl, hNR⟩, hb1⟩
    have HX1 : Hid (Fbx k lo sr l.length g off c w.heap.size w w1) := HFX.out.below hb1
    have HNR : Hid (NR (fit5 k lo sr l) (l.length) n) := hNR
    have hno := HNO.out n hNR
    have cw : w1.cell? ⟨w.heap.size + 1 + 1 + 1 + 1 + 1, 0, none⟩ = some (.func (.func 146) #[] #[.pointer (some ⟨w.heap.size + 1 + 1 + 1, 0, none⟩), .pointer (some ⟨w.heap.size + 1 + 1, 0, none⟩)]) := (cell_of_row _ _ _ _ _ _ HX1.out.w).trans rfl
    have hW1 := HFB.out w1 HX1.out n hno.2.1
    clear hS0 hb1 HFX HV0 hNR HFB
    go_wp2_with fail
    refine hW1.mono ?_
    rintro e w2 ⟨rfl, hb2⟩
    have HX2 : Hid (Fbx k lo sr l.length g off c w.heap.size w w2) := HX1.out.below hb2
    clear hW1 hb2 HX1 cw
    go_wp2_with fail
    obtain ⟨W2, hW2⟩ : ∃ W2, w2.alloc (.cells #[.int .i64 sr, .int .i64 k.chk, .int .i64 (upA k.upp l n), .int .i64 lo, .slice (some ⟨g, off, none⟩) n c] 75) = W2 := ⟨_, rfl⟩
    have HX2' : Hid (Fbx k lo sr l.length g off c w.heap.size w W2) := by have := HX2.out.below (((Below.refl w2.heap.size w2).alloc (Nat.le_refl _) (.cells #[.int .i64 sr, .int .i64 k.chk, .int .i64 (upA k.upp l n), .int .i64 lo, .slice (some ⟨g, off, none⟩) n c] 75))); rw [hW2] at this; exact this
    have hrow : W2.heap[w2.heap.size]? = some (.cells #[.int .i64 sr, .int .i64 k.chk, .int .i64 (upA k.upp l n), .int .i64 lo, .slice (some ⟨g, off, none⟩) n c] 75 (0, 0)) := by rw [← hW2]; exact al_new _ _
    have HR2 : Hid (W2.heap[w2.heap.size]? = some (.cells #[.int .i64 sr, .int .i64 k.chk, .int .i64 (upA k.upp l n), .int .i64 lo, .slice (some ⟨g, off, none⟩) n c] 75 (0, 0))) := hrow
    have HZ2 : Hid (W2.heap.size = w2.heap.size + 1 ∧ w.heap.size + 4 < w2.heap.size) := ⟨by rw [← hW2, World.size_alloc], (Array.getElem?_eq_some_iff.1 HX2.out.r).1⟩
    rw [hW2]
    have hCl := HCl.out W2 n HX2'.out.bel hno.1 hno.2.1
    clear hrow hW2 HX2
    refine hCl.mono ?_
    rintro e w3 ⟨v3, rfl, hs3, hb3⟩
    obtain ⟨a3, c3, hv3⟩ := hs3.shape
    rw [show (l.take n).length = n by have := hno.2.1; simp; omega] at hv3
    subst hv3
    have HX3 : Hid (Fbx k lo sr l.length g off c w.heap.size w w3) := HX2'.out.below hb3
    have HS3 : Hid (C.SOwn w3 W2.heap.size (.slice a3 n c3) (l.take n)) := hs3
    have hr3 : w3.heap[w2.heap.size]? = some (.cells #[.int .i64 sr, .int .i64 k.chk, .int .i64 (upA k.upp l n), .int .i64 lo, .slice (some ⟨g, off, none⟩) n c] 75 (0, 0)) := (hb3.block w2.heap.size (Array.getElem?_eq_some_iff.1 HR2.out).1).trans HR2.out
    have e0 : w3.cell? ⟨w2.heap.size, 0, none⟩ = some (.int .i64 sr) := (cell_of_row _ _ _ _ _ _ hr3).trans rfl
    have e1 : w3.cell? ⟨w2.heap.size, 1, none⟩ = some (.int .i64 k.chk) := (cell_of_row _ _ _ _ _ _ hr3).trans rfl
    have e2 : w3.cell? ⟨w2.heap.size, 2, none⟩ = some (.int .i64 (upA k.upp l n)) := (cell_of_row _ _ _ _ _ _ hr3).trans rfl
    have e3 : w3.cell? ⟨w2.heap.size, 3, none⟩ = some (.int .i64 lo) := (cell_of_row _ _ _ _ _ _ hr3).trans rfl
    have e4 : w3.cell? ⟨w2.heap.size, 4, none⟩ = some (.slice (some ⟨g, off, none⟩) n c) := (cell_of_row _ _ _ _ _ _ hr3).trans rfl
    have z4 : w3.frozen? ⟨w2.heap.size, 4, none⟩ = false := frozen_of_row _ _ _ _ _ hr3
    have d0 : w3.cell? ⟨w.heap.size + 1 + 1 + 1 + 1, 0, none⟩ = some (.int .i64 0) := (cell_of_row _ _ _ _ _ _ HX3.out.r).trans rfl
    have d1 : w3.cell? ⟨w.heap.size + 1 + 1 + 1 + 1, 1, none⟩ = some (.int .i64 0) := (cell_of_row _ _ _ _ _ _ HX3.out.r).trans rfl
    have d2 : w3.cell? ⟨w.heap.size + 1 + 1 + 1 + 1, 2, none⟩ = some (.int .i64 0) := (cell_of_row _ _ _ _ _ _ HX3.out.r).trans rfl
    have d3 : w3.cell? ⟨w.heap.size + 1 + 1 + 1 + 1, 3, none⟩ = some (.int .i64 0) := (cell_of_row _ _ _ _ _ _ HX3.out.r).trans rfl
    have d4 : w3.cell? ⟨w.heap.size + 1 + 1 + 1 + 1, 4, none⟩ = some (.slice none 0 0) := (cell_of_row _ _ _ _ _ _ HX3.out.r).trans rfl
    have y0 : w3.frozen? ⟨w.heap.size + 1 + 1 + 1 + 1, 0, none⟩ = false := frozen_of_row _ _ _ _ _ HX3.out.r
    have y1 : w3.frozen? ⟨w.heap.size + 1 + 1 + 1 + 1, 1, none⟩ = false := frozen_of_row _ _ _ _ _ HX3.out.r
    have y2 : w3.frozen? ⟨w.heap.size + 1 + 1 + 1 + 1, 2, none⟩ = false := frozen_of_row _ _ _ _ _ HX3.out.r
    have y3 : w3.frozen? ⟨w.heap.size + 1 + 1 + 1 + 1, 3, none⟩ = false := frozen_of_row _ _ _ _ _ HX3.out.r
    have y4 : w3.frozen? ⟨w.heap.size + 1 + 1 + 1 + 1, 4, none⟩ = false := frozen_of_row _ _ _ _ _ HX3.out.r
    have hn1 : w.heap.size + 1 + 1 + 1 + 1 ≠ w2.heap.size := by have := HZ2.out.2; omega
    have hn2 : w2.heap.size ≠ w.heap.size + 1 + 1 + 1 + 1 := by have := HZ2.out.2; omega
    clear hCl hs3 hb3 HX2' hr3 HR2 HCl HNO
    go_wp2
    refine bodyPost_ret (v := .agg #[.int .i64 sr, .int .i64 k.chk, .int .i64 (upA k.upp l n), .int .i64 lo, .slice a3 n c3]) (by simp [results, Tryd.results120, go_sem, d0, d1, d2, d3, d4]) rfl ?_
    exact fill_end HX3.out.bel HS3.out HZ2.out HNR.out
  · have hle : ¬ (l.length : Int) ≤ 1000 ∨ l.length = 1000 := by omega
    have hle2 : (1000 : Int) ≤ (l.length : Int) := by omega
    have hmin : min (l.length : Int) 1000 = 1000 := by omega
    rw [show min l.length 1000 = 1000 by omega] at hS0 HNO ⊢
    clear hle
    go_enter Tryd.func120, Tryd.ntmps120
    go_wp2_with fail
    rw [HV0.out]
    refine hS0.mono ?_
    rintro e w1 ⟨⟨n, rfl, hNR⟩, hb1⟩
    have HX1 : Hid (Fbx k lo sr l.length g off c w.heap.size w w1) := HFX.out.below hb1
    have HNR : Hid (NR (fit5 k lo sr l) 1000 n) := hNR
    have hno := HNO.out n hNR
    have cw : w1.cell? ⟨w.heap.size + 1 + 1 + 1 + 1 + 1, 0, none⟩ = some (.func (.func 146) #[] #[.pointer (some ⟨w.heap.size + 1 + 1 + 1, 0, none⟩), .pointer (some ⟨w.heap.size + 1 + 1, 0, none⟩)]) := (cell_of_row _ _ _ _ _ _ HX1.out.w).trans rfl
    have hW1 := HFB.out w1 HX1.out n hno.2.1
    clear hS0 hb1 HFX HV0 hNR HFB
    go_wp2_with fail
    refine hW1.mono ?_
    rintro e w2 ⟨rfl, hb2⟩
    have HX2 : Hid (Fbx k lo sr l.length g off c w.heap.size w w2) := HX1.out.below hb2
    clear hW1 hb2 HX1 cw
    go_wp2_with fail
    obtain ⟨W2, hW2⟩ : ∃ W2, w2.alloc (.cells #[.int .i64 sr, .int .i64 k.chk, .int .i64 (upA k.upp l n), .int .i64 lo, .slice (some ⟨g, off, none⟩) n c] 75) = W2 := ⟨_, rfl⟩
    have HX2' : Hid (Fbx k lo sr l.length g off c w.heap.size w W2) := by have := HX2.out.below (((Below.refl w2.heap.size w2).alloc (Nat.le_refl _) (.cells #[.int .i64 sr, .int .i64 k.chk, .int .i64 (upA k.upp l n), .int .i64 lo, .slice (some ⟨g, off, none⟩) n c] 75))); rw [hW2] at this; exact this
    have hrow : W2.heap[w2.heap.size]? = some (.cells #[.int .i64 sr, .int .i64 k.chk, .int .i64 (upA k.upp l n), .int .i64 lo, .slice (some ⟨g, off, none⟩) n c] 75 (0, 0)) := by rw [← hW2]; exact al_new _ _
    have HR2 : Hid (W2.heap[w2.heap.size]? = some (.cells #[.int .i64 sr, .int .i64 k.chk, .int .i64 (upA k.upp l n), .int .i64 lo, .slice (some ⟨g, off, none⟩) n c] 75 (0, 0))) := hrow
    have HZ2 : Hid (W2.heap.size = w2.heap.size + 1 ∧ w.heap.size + 4 < w2.heap.size) := ⟨by rw [← hW2, World.size_alloc], (Array.getElem?_eq_some_iff.1 HX2.out.r).1⟩
    rw [hW2]
    have hCl := HCl.out W2 n HX2'.out.bel hno.1 hno.2.1
    clear hrow hW2 HX2
    refine hCl.mono ?_
    rintro e w3 ⟨v3, rfl, hs3, hb3⟩
    obtain ⟨a3, c3, hv3⟩ := hs3.shape
    rw [show (l.take n).length = n by have := hno.2.1; simp; omega] at hv3
    subst hv3
    have HX3 : Hid (Fbx k lo sr l.length g off c w.heap.size w w3) := HX2'.out.below hb3
    have HS3 : Hid (C.SOwn w3 W2.heap.size (.slice a3 n c3) (l.take n)) := hs3
    have hr3 : w3.heap[w2.heap.size]? = some (.cells #[.int .i64 sr, .int .i64 k.chk, .int .i64 (upA k.upp l n), .int .i64 lo, .slice (some ⟨g, off, none⟩) n c] 75 (0, 0)) := (hb3.block w2.heap.size (Array.getElem?_eq_some_iff.1 HR2.out).1).trans HR2.out
    have e0 : w3.cell? ⟨w2.heap.size, 0, none⟩ = some (.int .i64 sr) := (cell_of_row _ _ _ _ _ _ hr3).trans rfl
    have e1 : w3.cell? ⟨w2.heap.size, 1, none⟩ = some (.int .i64 k.chk) := (cell_of_row _ _ _ _ _ _ hr3).trans rfl
    have e2 : w3.cell? ⟨w2.heap.size, 2, none⟩ = some (.int .i64 (upA k.upp l n)) := (cell_of_row _ _ _ _ _ _ hr3).trans rfl
    have e3 : w3.cell? ⟨w2.heap.size, 3, none⟩ = some (.int .i64 lo) := (cell_of_row _ _ _ _ _ _ hr3).trans rfl
    have e4 : w3.cell? ⟨w2.heap.size, 4, none⟩ = some (.slice (some ⟨g, off, none⟩) n c) := (cell_of_row _ _ _ _ _ _ hr3).trans rfl
    have z4 : w3.frozen? ⟨w2.heap.size, 4, none⟩ = false := frozen_of_row _ _ _ _ _ hr3
    have d0 : w3.cell? ⟨w.heap.size + 1 + 1 + 1 + 1, 0, none⟩ = some (.int .i64 0) := (cell_of_row _ _ _ _ _ _ HX3.out.r).trans rfl
    have d1 : w3.cell? ⟨w.heap.size + 1 + 1 + 1 + 1, 1, none⟩ = some (.int .i64 0) := (cell_of_row _ _ _ _ _ _ HX3.out.r).trans rfl
    have d2 : w3.cell? ⟨w.heap.size + 1 + 1 + 1 + 1, 2, none⟩ = some (.int .i64 0) := (cell_of_row _ _ _ _ _ _ HX3.out.r).trans rfl
    have d3 : w3.cell? ⟨w.heap.size + 1 + 1 + 1 + 1, 3, none⟩ = some (.int .i64 0) := (cell_of_row _ _ _ _ _ _ HX3.out.r).trans rfl
    have d4 : w3.cell? ⟨w.heap.size + 1 + 1 + 1 + 1, 4, none⟩ = some (.slice none 0 0) := (cell_of_row _ _ _ _ _ _ HX3.out.r).trans rfl
    have y0 : w3.frozen? ⟨w.heap.size + 1 + 1 + 1 + 1, 0, none⟩ = false := frozen_of_row _ _ _ _ _ HX3.out.r
    have y1 : w3.frozen? ⟨w.heap.size + 1 + 1 + 1 + 1, 1, none⟩ = false := frozen_of_row _ _ _ _ _ HX3.out.r
    have y2 : w3.frozen? ⟨w.heap.size + 1 + 1 + 1 + 1, 2, none⟩ = false := frozen_of_row _ _ _ _ _ HX3.out.r
    have y3 : w3.frozen? ⟨w.heap.size + 1 + 1 + 1 + 1, 3, none⟩ = false := frozen_of_row _ _ _ _ _ HX3.out.r
    have y4 : w3.frozen? ⟨w.heap.size + 1 + 1 + 1 + 1, 4, none⟩ = false := frozen_of_row _ _ _ _ _ HX3.out.r
    have hn1 : w.heap.size + 1 + 1 + 1 + 1 ≠ w2.heap.size := by have := HZ2.out.2; omega
    have hn2 : w2.heap.size ≠ w.heap.size + 1 + 1 + 1 + 1 := by have := HZ2.out.2; omega
    clear hCl hs3 hb3 HX2' hr3 HR2 HCl HNO
    go_wp2
    refine bodyPost_ret (v := .agg #[.int .i64 sr, .int .i64 k.chk, .int .i64 (upA k.upp l n), .int .i64 lo, .slice a3 n c3]) (by simp [results, Tryd.results120, go_sem, d0, d1, d2, d3, d4]) rfl ?_
    exact fill_end HX3.out.bel HS3.out HZ2.out HNR.out

end Go.Proofs.YtkkmoplijicmpaeDoor

namespace Go.Proofs.YtkkmoplijicmpaeDoor
open Go.RowKit
set_option linter.unusedVariables false

theorem cin_drop {w : World} {g off m c n : Nat} {l : List (Int × Int)} (h : CIn w (.slice (some ⟨g, off, none⟩) m c) l) (c' : Nat) : CIn w (.slice (some ⟨g, off + n * 2, none⟩) (l.drop n).length c') (l.drop n) := by
  obtain ⟨a', c'', hv, hs⟩ := h.shape
  simp only [Value.slice.injEq] at hv
  obtain ⟨rfl, rfl, rfl⟩ := hv
  refine ⟨⟨_, c', rfl, ?_⟩, by have := h.small; rw [List.length_drop]; omega⟩
  rcases hs with rfl | ⟨g', off', ha, hs⟩
  · exact .inl (by simp)
  · cases ha
    refine .inr ⟨g, off + n * 2, rfl, fun i p hp => ?_⟩
    rw [List.getElem?_drop] at hp
    have := hs (n + i) p hp
    rw [show off + n * 2 + i * 2 = off + (n + i) * 2 by omega]
    exact this
theorem hid_and {p q : Prop} (h : Hid p) (h' : Hid q) : Hid (p ∧ q) := (⟨h.out, h'.out⟩ : p ∧ q)
theorem cin_nil (w : World) (a : Option Addr) (c : Nat) : CIn w (.slice a 0 c) [] := ⟨⟨a, c, rfl, .inl rfl⟩, by simp⟩
def dlE (o : Option (List Rr)) : Int := match o with | some _ => 0 | none => 3
def dlL (o : Option (List Rr)) : List Rr := o.getD []
/-- What deal and Make answer: an error's number, and reports in memory of their own. -/
def MkP (er : Int) (rs : List Rr) (w : World) (e : Ending) (w' : World) : Prop :=
  ∃ a c os, e = .returned (.tuple #[.slice a rs.length c, .int .i64 er]) ∧ rs = os.map R5o.r ∧ R5 w' w.heap.size (.slice a rs.length c) os ∧ (∀ r ∈ rs, r.clm.length ≤ 1000) ∧ rs.length ≤ 2000 ∧ Below w.heap.size w w'
/-- What deal keeps from round to round. -/
structure DlI (k : Qu) (l0 : List (Int × Int)) (lo0 sr0 : Int) (lo sr : Int) (ll : List (Int × Int)) (os : List R5o) : Prop where
  dl : ∃ f, ll.length < f ∧ dl5 k (l0.length + 1) lo0 sr0 l0 = (dl5 k f lo sr ll).map (os.map R5o.r ++ ·)
  bg : Bg k lo sr ll
  sr : sr ≤ 4611686018427387904
  cnt : os.length + ll.length ≤ l0.length
  few : ∀ o ∈ os, o.r.clm.length ≤ 1000
theorem DlI.start {k : Qu} {l0 : List (Int × Int)} {lo0 sr0 : Int} (h : Bg k lo0 sr0 l0) (hs : sr0 ≤ 4611686018427387903) : DlI k l0 lo0 sr0 lo0 sr0 l0 [] :=
  ⟨⟨l0.length + 1, by omega, by cases dl5 k (l0.length + 1) lo0 sr0 l0 <;> simp⟩, h, by omega, by simp, by simp⟩
theorem DlI.step {k : Qu} (ok : k.Ok) {l0 : List (Int × Int)} {lo0 sr0 lo sr : Int} {ll : List (Int × Int)} {os : List R5o} (h : DlI k l0 lo0 sr0 lo sr ll os) (hne : ll ≠ []) (hs : sr ≤ 4611686018427387903) {n : Nat} (hn : NR (fit5 k lo sr ll) (min ll.length 1000) n) (a : Option Addr) (c : Nat) : DlI k l0 lo0 sr0 (upA k.upp ll n) (sr + 1) (ll.drop n) (os ++ [⟨rep5 k lo sr ll n, a, c⟩]) := by
  obtain ⟨h1, h2, h3⟩ := nm_one ok h.bg hs hne hn
  obtain ⟨f, hf, he⟩ := h.dl
  obtain ⟨f, rfl⟩ : ∃ f', f = f' + 1 := ⟨f - 1, by omega⟩
  refine ⟨⟨f, by rw [List.length_drop]; omega, ?_⟩, h.bg.next hne h1, by omega, ?_, ?_⟩
  · rw [he, dl_step f hne hs hn]
    cases dl5 k f (upA k.upp ll n) (sr + 1) (ll.drop n) <;> simp
  · have := h.cnt
    simp only [List.length_append, List.length_cons, List.length_nil, List.length_drop]
    omega
  · intro o ho
    rcases List.mem_append.mp ho with q | q
    · exact h.few o q
    · simp at q
      subst q
      show (ll.take n).length ≤ 1000
      simp; omega
theorem DlI.done {k : Qu} {l0 : List (Int × Int)} {lo0 sr0 lo sr : Int} {os : List R5o} (h : DlI k l0 lo0 sr0 lo sr [] os) : dl5 k (l0.length + 1) lo0 sr0 l0 = some (os.map R5o.r) := by
  obtain ⟨f, hf, he⟩ := h.dl
  obtain ⟨f, rfl⟩ : ∃ f', f = f' + 1 := ⟨f - 1, by omega⟩
  rw [he, dl_end]
  simp
theorem DlI.big {k : Qu} {l0 : List (Int × Int)} {lo0 sr0 lo sr : Int} {ll : List (Int × Int)} {os : List R5o} (h : DlI k l0 lo0 sr0 lo sr ll os) (hne : ll ≠ []) (hs : 4611686018427387903 < sr) : dl5 k (l0.length + 1) lo0 sr0 l0 = none := by
  obtain ⟨f, hf, he⟩ := h.dl
  obtain ⟨f, rfl⟩ : ∃ f', f = f' + 1 := ⟨f - 1, by omega⟩
  rw [he, dl_big f hne hs]
  rfl

theorem Tryd.info_report : (Tryd.prog.info? 75).map (fun i => (i.zero, i.size, i.bytes)) = some (some (.agg #[.int .i64 0, .int .i64 0, .int .i64 0, .int .i64 0, .slice none 0 0]), 5, 56) := by kernel_rfl

theorem rep_lit (W : World) (x0 x1 x2 x3 x4 : Value) : ∀ j u, [x0, x1, x2, x3, x4][j]? = some u → (W.alloc (.cells #[x0, x1, x2, x3, x4] 75)).cell? ((⟨W.heap.size, 0, none⟩ : Addr).add j) = some u := by
  intro j u hj
  rw [add_n5, Nat.zero_add, cell_of_row _ W.heap.size j _ _ _ (al_new W _), ← hj, ← Array.getElem?_toList]
theorem rep_one (x0 x1 x2 x3 : Int) (a : Option Addr) (n c : Nat) : ∀ u ∈ [Value.int .i64 x0, .int .i64 x1, .int .i64 x2, .int .i64 x3, .slice a n c], u.oneCell' = true := by
  intro u hu
  simp at hu
  rcases hu with rfl | rfl | rfl | rfl | rfl <;> rfl
/-- The world of deal, between two rounds. -/
structure DlW (k : Qu) (l : List (Int × Int)) (lo sr : Int) (w wr : World) (lo' sr' : Int) (ll : List (Int × Int)) (os : List R5o) (a : Option Addr) (c : Nat) (lv : Value) : Prop where
  ci : CIn w (.slice a ll.length c) ll
  cap : ll.length ≤ c
  cc : c ≤ 9223372036854775807
  dl : DlI k l lo sr lo' sr' ll os
  r5 : R5 wr (w.heap.size + 2) lv os
  bel : Below w.heap.size w wr
  big : w.heap.size + 2 ≤ wr.heap.size
  s : wr.heap[w.heap.size]? = some (.cells #[.int .i64 k.org, .int .i64 k.num] 23 (0, 0))
  al : wr.heap[w.heap.size + 1]? = some (.cells (alC k lo' sr') 75 (0, 0))
theorem DlW.start {k : Qu} {l : List (Int × Int)} {lo sr : Int} {w : World} {a : Option Addr} {c : Nat} (hC : CIn w (.slice a l.length c) l) (hm : l.length ≤ c) (hc : c ≤ 9223372036854775807) (hb : Bg k lo sr l) (hs : sr ≤ 4611686018427387903) :
    DlW k l lo sr w ((w.alloc (.cells #[.int .i64 k.org, .int .i64 k.num] 23)).alloc (.cells (alC k lo sr) 75)) lo sr l [] a c (.slice none 0 0) :=
  ⟨hC, hm, hc, DlI.start hb hs, R5.start _ _, ((Below.refl _ _).alloc (Nat.le_refl _) _).alloc (by simp) _, by simp, al_old (al_new _ _), by
    have := al_new (w.alloc (.cells #[.int .i64 k.org, .int .i64 k.num] 23)) (.cells (alC k lo sr) 75)
    rw [World.size_alloc] at this
    exact this⟩
/-- A round of deal, in memory. -/
theorem DlW.step {k : Qu} (ok : k.Ok) {l : List (Int × Int)} {lo sr lo' sr' : Int} {w wr w1 w5 w6 : World} {ll : List (Int × Int)} {os : List R5o} {a a' a3 : Option Addr} {c c' n c3 : Nat} {lv v6 : Value} (h : DlW k l lo sr w wr lo' sr' ll os a c lv) (hne : ll ≠ []) (hs : sr' ≤ 4611686018427387903)
    (hn : NR (fit5 k lo' sr' ll) (min ll.length 1000) n) (h3 : C.SOwn w1 wr.heap.size (.slice a3 n c3) (ll.take n)) (hb1 : Below wr.heap.size wr w1) (hb5 : Below w1.heap.size w1 w5) (hg : w5.grownBy w6 lv.ownBlock)
    (hr : w6.ownsRow (w.heap.size + 2) 75 5 v6 (os.length + 1) (rpC os ++ [.int .i64 sr', .int .i64 k.chk, .int .i64 (upA k.upp ll n), .int .i64 lo', .slice a3 n c3])) (hf : v6.ownBlock = lv.ownBlock ∨ v6.ownBlock = some w5.heap.size)
    (hci : CIn w (.slice a' (ll.drop n).length c') (ll.drop n)) (hcap : (ll.drop n).length ≤ c') (hcc : c' ≤ 9223372036854775807) :
    DlW k l lo sr w ((w6.setCell ⟨w.heap.size + 1, 3, none⟩ (.int .i64 (upA k.upp ll n))).setCell ⟨w.heap.size + 1, 0, none⟩ (.int .i64 (sr' + 1))) (upA k.upp ll n) (sr' + 1) (ll.drop n) (os ++ [⟨rep5 k lo' sr' ll n, a3, c3⟩]) a' c' v6 := by
  obtain ⟨n1, n2, n3⟩ := nm_one ok h.dl.bg hs hne hn
  have hl3 : (ll.take n).length = n := by simp; omega
  have hb15 : Below wr.heap.size wr w5 := hb1.trans (hb5.mono hb1.size)
  have hR6 : R5 w6 (w.heap.size + 2) v6 (os ++ [⟨rep5 k lo' sr' ll n, a3, c3⟩]) := by
    refine h.r5.push h.big hb15 ⟨rep5 k lo' sr' ll n, a3, c3⟩ ?_ hg ?_ ?_
    · show C.SOwn w5 wr.heap.size (.slice a3 (ll.take n).length c3) (ll.take n)
      rw [hl3]
      exact h3.blk2 (fun g hgb => hb5.block g (h3.lt g hgb).2)
    · have : rpc ⟨rep5 k lo' sr' ll n, a3, c3⟩ = [.int .i64 sr', .int .i64 k.chk, .int .i64 (upA k.upp ll n), .int .i64 lo', .slice a3 n c3] := by
        show [_, _, _, _, Value.slice a3 (ll.take n).length c3] = _
        rw [hl3]
        rfl
      rw [this]
      exact hr
    · intro j hj
      rcases hf with q | q
      · left; exact q.symm.trans hj
      · right; rw [q] at hj; cases hj; exact Nat.le_refl _
  have hlow : ∀ g, g < w.heap.size + 2 → w6.heap[g]? = wr.heap[g]? := fun g hgl => by
    have h0 := h.big
    exact (hg.block g (by have := hb15.size; omega) (fun e => by have := (h.r5.row.lt g e.symm).1; omega)).trans (hb15.block g (by omega))
  have hB6 : Below w.heap.size w w6 := ⟨hg.os.trans ((h.bel.trans (hb15.mono h.bel.size)).os), hg.tape.trans ((h.bel.trans (hb15.mono h.bel.size)).tape), hg.output.trans ((h.bel.trans (hb15.mono h.bel.size)).output), Nat.le_trans (h.bel.trans (hb15.mono h.bel.size)).size hg.size, fun g hgl => (hlow g (by omega)).trans (h.bel.block g hgl)⟩
  have e1 : ∀ g, g ≠ w.heap.size + 1 → ((w6.setCell ⟨w.heap.size + 1, 3, none⟩ (.int .i64 (upA k.upp ll n))).setCell ⟨w.heap.size + 1, 0, none⟩ (.int .i64 (sr' + 1))).heap[g]? = w6.heap[g]? := fun g hgn => by
    rw [Below.heap_setCell _ _ _ _ (by show g ≠ w.heap.size + 1; exact hgn), Below.heap_setCell _ _ _ _ (by show g ≠ w.heap.size + 1; exact hgn)]
  have hal6 : w6.heap[w.heap.size + 1]? = some (.cells (alC k lo' sr') 75 (0, 0)) := (hlow _ (by omega)).trans h.al
  refine ⟨hci, hcap, hcc, h.dl.step ok hne hs hn a3 c3, hR6.same (fun g hgb => e1 g (by have := (hR6.row.lt g hgb).1; omega)) (fun i o g hi hgb => e1 g (by have := ((hR6.own i o hi).lt g hgb).1; omega)), (hB6.setCell (by show _ ≤ w.heap.size + 1; omega) _).setCell (by show _ ≤ w.heap.size + 1; omega) _, ?_, (e1 _ (by omega)).trans ((hlow _ (by omega)).trans h.s), ?_⟩
  · have := h.big
    have := hb15.size
    have := hg.size
    simp
    omega
  · exact heap_setCell_same _ _ 0 _ _ _ (heap_setCell_same _ _ 3 _ _ _ hal6)

theorem DlW.fin {k : Qu} {l : List (Int × Int)} {lo sr lo' sr' : Int} {w wr : World} {os : List R5o} {a la : Option Addr} {c lc : Nat} (h : DlW k l lo sr w wr lo' sr' [] os a c (.slice la os.length lc)) (hl : l.length ≤ 2000) :
    MkP (dlE (dl5 k (l.length + 1) lo sr l)) (dlL (dl5 k (l.length + 1) lo sr l)) w (.returned (.tuple #[.slice la os.length lc, .int .i64 0])) wr := by
  rw [h.dl.done]
  have hc := h.dl.cnt
  refine ⟨la, lc, os, ?_, rfl, ?_, ?_, ?_, h.bel⟩
  · show _ = Ending.returned (.tuple #[.slice la (os.map R5o.r).length lc, .int .i64 0])
    rw [List.length_map]
  · show R5 wr w.heap.size (.slice la (os.map R5o.r).length lc) os
    rw [List.length_map]
    exact h.r5.lower (by omega)
  · intro r hr
    obtain ⟨o, ho, rfl⟩ := List.mem_map.mp hr
    exact h.dl.few o ho
  · show (os.map R5o.r).length ≤ 2000
    rw [List.length_map]
    omega
theorem DlW.over {k : Qu} {l : List (Int × Int)} {lo sr lo' sr' : Int} {w wr : World} {ll : List (Int × Int)} {os : List R5o} {a : Option Addr} {c : Nat} {lv : Value} (h : DlW k l lo sr w wr lo' sr' ll os a c lv) (hne : ll ≠ []) (hs : 4611686018427387903 < sr') :
    MkP (dlE (dl5 k (l.length + 1) lo sr l)) (dlL (dl5 k (l.length + 1) lo sr l)) w (.returned (.tuple #[.slice none 0 0, .int .i64 3])) wr := by
  rw [h.dl.big hne hs]
  exact ⟨none, 0, [], rfl, rfl, R5.start _ _, by simp [dlL], by simp [dlL], h.bel⟩

theorem DlW.after {k : Qu} {l : List (Int × Int)} {lo sr lo' sr' : Int} {w wr w1 w4 w6 : World} {ll : List (Int × Int)} {os : List R5o} {a a3 : Option Addr} {c n c3 : Nat} {lv : Value} {U : Int} {o : Obj} (h : DlW k l lo sr w wr lo' sr' ll os a c lv) (hb1 : Below wr.heap.size wr w1)
    (hr4 : w4.heap[w1.heap.size]? = some (.cells #[.int .i64 sr', .int .i64 k.chk, .int .i64 U, .int .i64 lo', .slice a3 n c3] 75 (0, 0))) (hb4 : Below w1.heap.size w1 w4) (hg : (w4.alloc o).grownBy w6 lv.ownBlock) :
    w6.cell? ⟨w1.heap.size, 4, none⟩ = some (.slice a3 n c3) ∧ w6.cell? ⟨w1.heap.size, 2, none⟩ = some (.int .i64 U) ∧ w6.cell? ⟨w.heap.size + 1, 0, none⟩ = some (.int .i64 sr') ∧ w6.cell? ⟨w.heap.size + 1, 3, none⟩ = some (.int .i64 lo') ∧ w6.frozen? ⟨w.heap.size + 1, 0, none⟩ = false ∧ w6.frozen? ⟨w.heap.size + 1, 3, none⟩ = false ∧ w1.heap.size ≠ w.heap.size + 1 ∧ w.heap.size + 1 ≠ w1.heap.size := by
  have hz := h.big
  have hz1 := hb1.size
  have h6 : w6.heap[w1.heap.size]? = some (.cells #[.int .i64 sr', .int .i64 k.chk, .int .i64 U, .int .i64 lo', .slice a3 n c3] 75 (0, 0)) :=
    (hg.block _ (by have := (Array.getElem?_eq_some_iff.1 hr4).1; simp; omega) (fun e => by have := (h.r5.row.lt _ e.symm).2; omega)).trans (al_old hr4)
  have ha : w6.heap[w.heap.size + 1]? = some (.cells (alC k lo' sr') 75 (0, 0)) :=
    (hg.block _ (by have := hb4.size; simp; omega) (fun e => by have := (h.r5.row.lt _ e.symm).1; omega)).trans (al_old ((hb4.block _ (by omega)).trans ((hb1.block _ (by omega)).trans h.al)))
  exact ⟨(cell_of_row _ _ _ _ _ _ h6).trans rfl, (cell_of_row _ _ _ _ _ _ h6).trans rfl, (cell_of_row _ _ _ _ _ _ ha).trans rfl, (cell_of_row _ _ _ _ _ _ ha).trans rfl, frozen_of_row _ _ _ _ _ ha, frozen_of_row _ _ _ _ _ ha, by omega, by omega⟩

set_option maxRecDepth 100000 in
set_option maxHeartbeats 8000000 in
theorem deal5_any (k : Qu) (ok : k.Ok) (lo sr : Int) (l : List (Int × Int)) (a : Option Addr) (c : Nat) (w : World) (hC : CIn w (.slice a l.length c) l) (hm : l.length ≤ c) (hc : c ≤ 9223372036854775807) (hl : l.length ≤ 2000) (hs : sr ≤ 4611686018427387903) (hb : Bg k lo sr l) (hT : Tab w) :
    Calls Tryd.prog 79 #[.agg #[.int .i64 k.org, .int .i64 k.num], .int .i64 k.mtu, .slice a l.length c, .agg (alC k lo sr)] w (MkP (dlE (dl5 k (l.length + 1) lo sr l)) (dlL (dl5 k (l.length + 1) lo sr l)) w) := by
  obtain ⟨i0, hi0, hz0, hy0, hb0⟩ := info_parts Tryd.info_report
  have HS0 : Hid (DlW k l lo sr w ((w.alloc (.cells #[.int .i64 k.org, .int .i64 k.num] 23)).alloc (.cells (alC k lo sr) 75)) lo sr l [] a c (.slice none 0 0)) := DlW.start hC hm hc hb hs
  have h00 : 0 < w.heap.size := World.block_lt_of_cell? w ⟨0, 0, none⟩ (hT 0 (by omega))
  have HT : Hid (Tab w) := hT
  have HOK : Hid k.Ok := ok
  obtain ⟨P, hP⟩ : ∃ P, MkP (dlE (dl5 k (l.length + 1) lo sr l)) (dlL (dl5 k (l.length + 1) lo sr l)) w = P := ⟨_, rfl⟩
  have HP : Hid (MkP (dlE (dl5 k (l.length + 1) lo sr l)) (dlL (dl5 k (l.length + 1) lo sr l)) w = P) := hP
  rw [hP]
  clear hC hm hc hb hs hT ok hP
  go_enter Tryd.func79, Tryd.ntmps79
  go_wp2_with fail
  go_loopg [2, 10] l.length (fun kx s2 s10 wr => ∃ (lo' sr' : Int) (ll : List (Int × Int)) (os : List R5o) (a' : Option Addr) (n' c' : Nat), s2 = .slice a' n' c' ∧ n' ≤ kx ∧ Hid (ll.length = n' ∧ DlW k l lo sr w wr lo' sr' ll os a' c' s10))
  case atStart => exact ⟨lo, sr, l, [], a, l.length, c, rfl, Nat.le_refl _, (⟨rfl, HS0.out⟩ : _ ∧ _)⟩
  case round =>
    obtain ⟨lo', sr', ll, os, a', n', c', rfl, hk, HD⟩ := hrel
    obtain ⟨la, lc, hlv⟩ := own_sl5 HD.out.2.r5.row
    subst hlv
    by_cases hn0 : n' = 0
    · subst hn0
      have HF : Hid (P (.returned (.tuple #[.slice la os.length lc, .int .i64 0])) wr) := by
        obtain ⟨e, hD⟩ := HD.out
        have e2 : ll = [] := List.eq_nil_of_length_eq_zero e
        subst e2
        rw [← HP.out]
        exact hD.fin hl
      clear HD HP HS0
      go_wp2
      exact HF.out
    · have hp0 : 0 < n' := by omega
      have hne : ll ≠ [] := fun e => by have := HD.out.1; rw [e] at this; simp at this; omega
      have HNE : Hid (ll ≠ []) := hne
      have HL : Hid (ll.length = n') := HD.out.1
      have HDW : Hid (DlW k l lo sr w wr lo' sr' ll os a' c' (.slice la os.length lc)) := HD.out.2
      have l0 : wr.cell? ⟨w.heap.size + 1, 0, none⟩ = some (.int .i64 sr') := (cell_of_row _ _ _ _ _ _ HDW.out.al).trans rfl
      clear HD hne hn0
      by_cases hbig : 4611686018427387903 < sr'
      · have HF : Hid (P (.returned (.tuple #[.slice none 0 0, .int .i64 3])) wr) := by
          rw [← HP.out]
          exact HDW.out.over HNE.out hbig
        clear HDW HP HS0
        go_wp2
        exact HF.out
      · have hle : sr' ≤ 4611686018427387903 := by omega
        have hsr1 : 1 ≤ sr' := HDW.out.dl.bg.ser
        obtain ⟨g, off, rfl⟩ : ∃ g off, a' = some ⟨g, off, none⟩ := by
          obtain ⟨a2, c2, hv, hs⟩ := HDW.out.ci.shape
          simp only [Value.slice.injEq] at hv
          obtain ⟨rfl, _, _⟩ := hv
          rcases hs with q | ⟨g, off, q, _⟩
          · exact absurd q HNE.out
          · exact ⟨g, off, q⟩
        have l1 : wr.cell? ⟨w.heap.size + 1, 1, none⟩ = some (.int .i64 k.chk) := (cell_of_row _ _ _ _ _ _ HDW.out.al).trans rfl
        have l2 : wr.cell? ⟨w.heap.size + 1, 2, none⟩ = some (.int .i64 k.upp) := (cell_of_row _ _ _ _ _ _ HDW.out.al).trans rfl
        have l3 : wr.cell? ⟨w.heap.size + 1, 3, none⟩ = some (.int .i64 lo') := (cell_of_row _ _ _ _ _ _ HDW.out.al).trans rfl
        have l4 : wr.cell? ⟨w.heap.size + 1, 4, none⟩ = some (.slice none 0 0) := (cell_of_row _ _ _ _ _ _ HDW.out.al).trans rfl
        have s0 : wr.cell? ⟨w.heap.size, 0, none⟩ = some (.int .i64 k.org) := (cell_of_row _ _ _ _ _ _ HDW.out.s).trans rfl
        have s1 : wr.cell? ⟨w.heap.size, 1, none⟩ = some (.int .i64 k.num) := (cell_of_row _ _ _ _ _ _ HDW.out.s).trans rfl
        have hfl := fill5_any k HOK.out lo' sr' ll g off c' wr (HDW.out.ci.below HDW.out.bel) HDW.out.cap HNE.out hle HDW.out.dl.bg (HT.out.below HDW.out.bel h00)
        rw [HL.out] at hfl
        go_wp2_with fail
        refine hfl.mono ?_
        rintro e w1 ⟨n, a3, c3, hNR, rfl, hs3, hb1⟩
        have HNR : Hid (NR (fit5 k lo' sr' ll) (min ll.length 1000) n) := by rw [HL.out]; exact hNR
        have hno := nm_one HOK.out HDW.out.dl.bg hle HNE.out HNR.out
        rw [HL.out] at hno
        have HS3 : Hid (C.SOwn w1 wr.heap.size (.slice a3 n c3) (ll.take n)) := hs3
        have HB1 : Hid (Below wr.heap.size wr w1) := hb1
        obtain ⟨U, hU⟩ : ∃ U, upA k.upp ll n = U := ⟨_, rfl⟩
        have HU : Hid (upA k.upp ll n = U) := hU
        rw [hU]
        obtain ⟨w4, hw4⟩ : ∃ w4, w1.alloc (.cells #[.int .i64 sr', .int .i64 k.chk, .int .i64 U, .int .i64 lo', .slice a3 n c3] 75) = w4 := ⟨_, rfl⟩
        have HW4 : Hid (w1.alloc (.cells #[.int .i64 sr', .int .i64 k.chk, .int .i64 U, .int .i64 lo', .slice a3 n c3] 75) = w4) := hw4
        have hr4 : w4.heap[w1.heap.size]? = some (.cells #[.int .i64 sr', .int .i64 k.chk, .int .i64 U, .int .i64 lo', .slice a3 n c3] 75 (0, 0)) := by rw [← hw4]; exact al_new _ _
        have HR4 : Hid (w4.heap[w1.heap.size]? = some (.cells #[.int .i64 sr', .int .i64 k.chk, .int .i64 U, .int .i64 lo', .slice a3 n c3] 75 (0, 0))) := hr4
        have HB4 : Hid (Below w1.heap.size w1 w4) := by show Below _ _ _; rw [← hw4]; exact (Below.refl _ _).alloc (Nat.le_refl _) _
        have HB5 : Hid (Below w1.heap.size w1 (w4.alloc (.cells #[.int .i64 sr', .int .i64 k.chk, .int .i64 U, .int .i64 lo', .slice a3 n c3] 75))) := HB4.out.alloc HB4.out.size _
        have HLO : Hid (w.heap.size + 2 ≤ wr.heap.size ∧ wr.heap.size ≤ w1.heap.size ∧ w1.heap.size < w4.heap.size) := ⟨HDW.out.big, hb1.size, (Array.getElem?_eq_some_iff.1 hr4).1⟩
        have HR5 : Hid ((w4.alloc (.cells #[.int .i64 sr', .int .i64 k.chk, .int .i64 U, .int .i64 lo', .slice a3 n c3] 75)).ownsRow (w.heap.size + 2) 75 5 (.slice la os.length lc) os.length (rpC os)) := C.own_blk2 HDW.out.r5.row (fun g hg => by
          have h1 := (HDW.out.r5.row.lt g hg).2
          exact (HB5.out.block g (by have := HLO.out; omega)).trans (hb1.block g h1))
        have x0 : w4.cell? ⟨w1.heap.size, 0, none⟩ = some (.int .i64 sr') := (cell_of_row _ _ _ _ _ _ hr4).trans rfl
        have x1 : w4.cell? ⟨w1.heap.size, 1, none⟩ = some (.int .i64 k.chk) := (cell_of_row _ _ _ _ _ _ hr4).trans rfl
        have x2 : w4.cell? ⟨w1.heap.size, 2, none⟩ = some (.int .i64 U) := (cell_of_row _ _ _ _ _ _ hr4).trans rfl
        have x3 : w4.cell? ⟨w1.heap.size, 3, none⟩ = some (.int .i64 lo') := (cell_of_row _ _ _ _ _ _ hr4).trans rfl
        have x4 : w4.cell? ⟨w1.heap.size, 4, none⟩ = some (.slice a3 n c3) := (cell_of_row _ _ _ _ _ _ hr4).trans rfl
        have hol : os.length ≤ 2000 := by have := HDW.out.dl.cnt; omega
        clear hfl s0 s1 l0 l1 l2 l3 l4 hNR hs3 hb1 hU hw4 hr4
        have hwr : IntKind.i64.wrap (sr' + 1) = sr' + 1 := by rw [IntKind.wrap_i64]; omega
        have hnn : (n : Int) ≤ (n' : Int) := by omega
        have hnc : n' ≤ c' := by have := HDW.out.cap; have := HL.out; omega
        have hcc : c' ≤ 9223372036854775807 := HDW.out.cc
        by_cases hcn : c' = n
        · have e1 : n' = n := by omega
          subst hcn
          subst e1
          go_upto_region 6 with fail
          rw [HW4.out]
          go_wp2_with (at_builtin; refine wpList_append_own_at _ rfl _ _ 61 rfl (w.heap.size + 2) 75 i0 _ 5 56 Tryd.underlying61 hi0 hz0 hy0 hb0 rfl (by decide) _ _ _ rfl HR5.out ⟨w4.heap.size, 0, none⟩ 1 1 [.int .i64 sr', .int .i64 k.chk, .int .i64 U, .int .i64 lo', .slice a3 n' c3] rfl rfl (rep_lit _ _ _ _ _ _) (rep_one _ _ _ _ _ _ _) (by unfold maxLen; omega) (by omega) (by have := HLO.out; simp; omega) ?_; intro v6 w6 o6 g6 _ t6; obtain ⟨j0, j1, j2, j3, j4, j5, j6, j7⟩ := HDW.out.after HB1.out HR4.out HB4.out g6)
          have HN6 : Hid (DlW k l lo sr w ((w6.setCell ⟨w.heap.size + 1, 3, none⟩ (.int .i64 (upA k.upp ll n'))).setCell ⟨w.heap.size + 1, 0, none⟩ (.int .i64 (sr' + 1))) (upA k.upp ll n') (sr' + 1) (ll.drop n') (os ++ [⟨rep5 k lo' sr' ll n', a3, c3⟩]) (some ⟨g, off, none⟩) 0 v6) :=
            HDW.out.step HOK.out HNE.out hle HNR.out HS3.out HB1.out HB5.out g6 (by rw [HU.out]; exact o6) t6 (by rw [List.drop_eq_nil_of_le (by rw [HL.out]; exact Nat.le_refl _)]; exact cin_nil _ _ _) (by rw [List.drop_eq_nil_of_le (by rw [HL.out]; exact Nat.le_refl _)]; exact Nat.le_refl _) (by omega)
          rw [HU.out] at HN6
          have HD6 : Hid ((ll.drop n').length = 0) := by show _ = _; rw [List.drop_eq_nil_of_le (by rw [HL.out]; exact Nat.le_refl _)]; rfl
          clear o6 g6 t6
          go_roundg 0
          case measure => omega
          case rel => exact ⟨U, sr' + 1, ll.drop n', os ++ [(⟨rep5 k lo' sr' ll n', a3, c3⟩ : R5o)], _, 0, 0, rfl, Nat.le_refl _, hid_and HD6 HN6⟩
        · have hcn1 : ¬ (c' : Int) = (n : Int) := by omega
          go_upto_region 6 with fail
          rw [HW4.out]
          go_wp2_with (at_builtin; refine wpList_append_own_at _ rfl _ _ 61 rfl (w.heap.size + 2) 75 i0 _ 5 56 Tryd.underlying61 hi0 hz0 hy0 hb0 rfl (by decide) _ _ _ rfl HR5.out ⟨w4.heap.size, 0, none⟩ 1 1 [.int .i64 sr', .int .i64 k.chk, .int .i64 U, .int .i64 lo', .slice a3 n c3] rfl rfl (rep_lit _ _ _ _ _ _) (rep_one _ _ _ _ _ _ _) (by unfold maxLen; omega) (by omega) (by have := HLO.out; simp; omega) ?_; intro v6 w6 o6 g6 _ t6; obtain ⟨j0, j1, j2, j3, j4, j5, j6, j7⟩ := HDW.out.after HB1.out HR4.out HB4.out g6)
          have HN6 : Hid (DlW k l lo sr w ((w6.setCell ⟨w.heap.size + 1, 3, none⟩ (.int .i64 (upA k.upp ll n))).setCell ⟨w.heap.size + 1, 0, none⟩ (.int .i64 (sr' + 1))) (upA k.upp ll n) (sr' + 1) (ll.drop n) (os ++ [⟨rep5 k lo' sr' ll n, a3, c3⟩]) (some ⟨g, off + n * 2, none⟩) (c' - n) v6) :=
            HDW.out.step HOK.out HNE.out hle HNR.out HS3.out HB1.out HB5.out g6 (by rw [HU.out]; exact o6) t6 (cin_drop HDW.out.ci _) (by rw [List.length_drop, HL.out]; omega) (by omega)
          rw [HU.out] at HN6
          have HD6 : Hid ((ll.drop n).length = n' - n) := by show _ = _; rw [List.length_drop, HL.out]
          clear o6 g6 t6
          go_roundg (n' - n)
          case measure => omega
          case rel => exact ⟨U, sr' + 1, ll.drop n, os ++ [(⟨rep5 k lo' sr' ll n, a3, c3⟩ : R5o)], _, n' - n, c' - n, rfl, Nat.le_refl _, hid_and HD6 HN6⟩

end Go.Proofs.YtkkmoplijicmpaeDoor

namespace Go.Proofs.YtkkmoplijicmpaeDoor
open Go.RowKit
set_option linter.unusedVariables false

theorem clOk_rt : ∀ {l : List (Int × Int)} {lo up : Int}, C.Rt lo l → (∀ p ∈ l, p.2 ≤ up) → clOk up lo l = true
  | [], lo, up, _, _ => rfl
  | p :: r, lo, up, h, h2 => by
    simp only [clOk, Bool.and_eq_true, decide_eq_true_eq]
    exact ⟨h.1, h.2.1, h2 p (by simp), clOk_rt h.2.2.2 (fun q hq => h2 q (by simp [hq]))⟩
theorem pick_hi {hi : Int} : ∀ {l : List (Int × Int)} {p : Int}, ∀ q ∈ C.pick true (C.pc hi p l), q.2 ≤ hi
  | [], p, q, hq => by
    rw [C.pc] at hq
    split at hq
    · simp [C.pick] at hq
    · simp [C.pick] at hq
  | x :: r, p, q, hq => by
    rw [C.pc] at hq
    split at hq
    · exact pick_hi (l := r) q hq
    · rw [C.pick_append] at hq
      rcases List.mem_append.mp hq with h | h
      · split at h
        · simp [C.pick] at h
        · simp [C.pick] at h
      · simp only [C.pick, if_true] at h
        rcases List.mem_cons.mp h with rfl | h
        · show min x.2 hi ≤ hi; omega
        · exact pick_hi (l := r) q h
theorem wth_ok {l : List (Int × Int)} {lo up : Int} (h : C.IsSet l) (h0 : 0 ≤ lo) (hu : up ≤ 65536) : clOk up lo (C.wth l (lo, up)) = true :=
  clOk_rt ((C.rt_true (by omega) h.2).mono (by omega)) (fun q hq => pick_hi q hq)

/-- The question may be asked. -/
def inS (o n mtu : Int) : Bool := decide (((1 ≤ o ∧ o ≤ 4611686018427387903) ∧ (1 ≤ n ∧ n ≤ 4611686018427387902)) ∧ (80 ≤ mtu ∧ mtu ≤ 4096))
def inU (lo up : Int) : Bool := decide (0 ≤ lo ∧ lo < up ∧ up ≤ 65536)
def inK (ck sr : Int) : Bool := decide ((0 ≤ ck ∧ ck ≤ 4611686018427387903) ∧ (1 ≤ sr ∧ sr ≤ 4611686018427387903))
/-- WHAT MAKE ANSWERS. -/
def mk5 (o n mtu : Int) (l : List (Int × Int)) (lo up ck sr : Int) : Int × List Rr :=
  if inS o n mtu = false then (1, []) else if C.setB l = false then (30, []) else if inU lo up = false then (50, []) else if inK ck sr = false then (1, []) else
    (dlE (dl5 ⟨o, n, mtu, ck, up⟩ ((C.wth l (lo, up)).length + 1) lo sr (C.wth l (lo, up))), dlL (dl5 ⟨o, n, mtu, ck, up⟩ ((C.wth l (lo, up)).length + 1) lo sr (C.wth l (lo, up))))
theorem mkp_nil (er : Int) (w : World) {w' : World} (hb : Below w.heap.size w w') : MkP er [] w (.returned (.tuple #[.slice none 0 0, .int .i64 er])) w' :=
  ⟨none, 0, [], rfl, rfl, R5.start _ _, by simp, by simp, hb⟩
theorem MkP.base {er : Int} {rs : List Rr} {w w1 w' : World} {e : Ending} (h : MkP er rs w1 e w') (hb : Below w.heap.size w w1) : MkP er rs w e w' := by
  obtain ⟨a, c, os, h1, h2, h3, h4, h5, h6⟩ := h
  exact ⟨a, c, os, h1, h2, h3.lower hb.size, h4, h5, hb.trans (h6.mono hb.size)⟩

set_option maxRecDepth 100000 in
set_option maxHeartbeats 8000000 in
theorem make5_any (o n mtu : Int) (v : Value) (l : List (Int × Int)) (lo up ck sr : Int) (w : World) (h : C.Ls w v l) (hT : Tab w) :
    Calls Tryd.prog 26 #[.agg #[.int .i64 o, .int .i64 n], .int .i64 mtu, v, .int .i64 lo, .int .i64 up, .int .i64 ck, .int .i64 sr] w (MkP (mk5 o n mtu l lo up ck sr).1 (mk5 o n mtu l lo up ck sr).2 w) := by
  obtain ⟨a, c, rfl, hsp, hlc, hcc⟩ := h.shape
  have h00 : 0 < w.heap.size := World.block_lt_of_cell? w ⟨0, 0, none⟩ (hT 0 (by omega))
  obtain ⟨W, hW⟩ : ∃ W, w.alloc (.cells #[.int .i64 o, .int .i64 n] 23) = W := ⟨_, rfl⟩
  have HWe : Hid (w.alloc (.cells #[.int .i64 o, .int .i64 n] 23) = W) := hW
  have hbW : Below w.heap.size w W := by rw [← hW]; exact (Below.refl _ _).alloc (Nat.le_refl _) _
  have HBW : Hid (Below w.heap.size w W) := hbW
  have HRW : Hid (W.heap[w.heap.size]? = some (.cells #[.int .i64 o, .int .i64 n] 23 (0, 0))) := by show _ = _; rw [← hW]; exact al_new _ _
  have hS := session5_any o n W
  have hM := fun V => C.between5_any mtu 80 4096 V
  have HRi : Hid (∀ V, Below w.heap.size w V → Calls Tryd.prog 76 #[.slice a l.length c] V fun e w' => e = .returned (.bool (C.setB l)) ∧ Below V.heap.size V w') := fun V hV => C.right_ls (h.below hV)
  have hU := fun V => bounds5_any lo up V
  have hK := fun V => C.between5_any ck 0 4611686018427387903 V
  have hR := fun V => C.between5_any sr 1 4611686018427387903 V
  have HWi : Hid (∀ V, Below w.heap.size w V → Calls Tryd.prog 78 #[.slice a l.length c, .agg #[.int .i64 lo, .int .i64 up]] V (C.GRPost true l (lo, up) V)) := fun V hV => C.within_any lo up (h.below hV)
  obtain ⟨B1, h1⟩ : ∃ b, decide ((1 ≤ o ∧ o ≤ 4611686018427387903) ∧ (1 ≤ n ∧ n ≤ 4611686018427387902)) = b := ⟨_, rfl⟩
  obtain ⟨B2, h2⟩ : ∃ b, decide (80 ≤ mtu ∧ mtu ≤ 4096) = b := ⟨_, rfl⟩
  obtain ⟨B3, h3⟩ : ∃ b, C.setB l = b := ⟨_, rfl⟩
  obtain ⟨B4, h4⟩ : ∃ b, decide (0 ≤ lo ∧ lo < up ∧ up ≤ 65536) = b := ⟨_, rfl⟩
  obtain ⟨B5, h5⟩ : ∃ b, decide (0 ≤ ck ∧ ck ≤ 4611686018427387903) = b := ⟨_, rfl⟩
  obtain ⟨B6, h6⟩ : ∃ b, decide (1 ≤ sr ∧ sr ≤ 4611686018427387903) = b := ⟨_, rfl⟩
  rw [h1] at hS
  rw [h2] at hM
  rw [h3] at HRi
  rw [h4] at hU
  rw [h5] at hK
  rw [h6] at hR
  obtain ⟨er, her⟩ : ∃ er, (mk5 o n mtu l lo up ck sr).1 = er := ⟨_, rfl⟩
  obtain ⟨rs, hrs⟩ : ∃ rs, (mk5 o n mtu l lo up ck sr).2 = rs := ⟨_, rfl⟩
  have HM5 : Hid (mk5 o n mtu l lo up ck sr = (er, rs)) := by show _ = _; rw [← her, ← hrs]
  have HIS : Hid (inS o n mtu = (B1 && B2)) := by
    show _ = _
    rw [← h1, ← h2, Bool.eq_iff_iff]
    simp only [inS, decide_eq_true_eq, Bool.and_eq_true]
  have HIU : Hid (inU lo up = B4) := h4
  have HIK : Hid (inK ck sr = (B5 && B6)) := by
    show _ = _
    rw [← h5, ← h6, Bool.eq_iff_iff]
    simp only [inK, decide_eq_true_eq, Bool.and_eq_true]
  have HH : Hid ((1 ≤ o ∧ o ≤ 4611686018427387903) ∧ (1 ≤ n ∧ n ≤ 4611686018427387902) ↔ B1 = true) := by show _ ↔ _; rw [← h1]; simp
  have HH2 : Hid ((80 ≤ mtu ∧ mtu ≤ 4096) ↔ B2 = true) := by show _ ↔ _; rw [← h2]; simp
  have HH3 : Hid (C.setB l = B3) := h3
  have HH4 : Hid ((0 ≤ lo ∧ lo < up ∧ up ≤ 65536) ↔ B4 = true) := by show _ ↔ _; rw [← h4]; simp
  have HH5 : Hid ((0 ≤ ck ∧ ck ≤ 4611686018427387903) ↔ B5 = true) := by show _ ↔ _; rw [← h5]; simp
  have HH6 : Hid ((1 ≤ sr ∧ sr ≤ 4611686018427387903) ↔ B6 = true) := by show _ ↔ _; rw [← h6]; simp
  have HT : Hid (Tab w) := hT
  rw [her, hrs]
  clear hW hbW h1 h2 h3 h4 h5 h6 her hrs h hT hsp hlc hcc
  go_enter Tryd.func26, Tryd.ntmps26
  go_wp2_with fail
  rw [HWe.out]
  refine hS.mono ?_
  rintro e w1 ⟨rfl, hb1⟩
  have HB1 : Hid (Below W.heap.size W w1) := hb1
  clear hb1 hS
  cases B1 with
  | false =>
    have HF : Hid (MkP er rs w (.returned (.tuple #[.slice none 0 0, .int .i64 1])) w1) := by
      have e1 : mk5 o n mtu l lo up ck sr = (1, []) := by unfold mk5; rw [if_pos (show inS o n mtu = false from HIS.out)]
      rw [HM5.out, Prod.mk.injEq] at e1
      show MkP _ _ _ _ _
      rw [e1.1, e1.2]
      exact mkp_nil _ _ (HBW.out.trans (HB1.out.mono HBW.out.size))
    clear HM5 HIS HIU HIK HH HH2 HH3 HH4 HH5 HH6 HWi HRi hM hU hK hR
    go_wp2
    go_ret2
    exact HF.out
  | true =>
  go_wp2_with fail
  refine (hM _).mono ?_
  rintro e w1' ⟨rfl, hw1⟩
  subst hw1
  clear hM
  cases B2 with
  | false =>
    have HF : Hid (MkP er rs w (.returned (.tuple #[.slice none 0 0, .int .i64 1])) w1) := by
      have e1 : mk5 o n mtu l lo up ck sr = (1, []) := by unfold mk5; rw [if_pos (show inS o n mtu = false from HIS.out)]
      rw [HM5.out, Prod.mk.injEq] at e1
      show MkP _ _ _ _ _
      rw [e1.1, e1.2]
      exact mkp_nil _ _ (HBW.out.trans (HB1.out.mono HBW.out.size))
    clear HM5 HIS HIU HIK HH HH2 HH3 HH4 HH5 HH6 HWi HRi hU hK hR
    go_wp2
    go_ret2
    exact HF.out
  | true =>
  have hRi := HRi.out w1 (HBW.out.trans (HB1.out.mono HBW.out.size))
  clear HRi
  go_wp2_with fail
  refine hRi.mono ?_
  rintro e w2 ⟨rfl, hb2⟩
  have HB2 : Hid (Below W.heap.size W w2) := HB1.out.trans (hb2.mono HB1.out.size)
  clear hRi hb2 HB1
  cases B3 with
  | false =>
    have HF : Hid (MkP er rs w (.returned (.tuple #[.slice none 0 0, .int .i64 30])) w2) := by
      have e1 : mk5 o n mtu l lo up ck sr = (30, []) := by unfold mk5; rw [if_neg (by rw [HIS.out]; decide), if_pos HH3.out]
      rw [HM5.out, Prod.mk.injEq] at e1
      show MkP _ _ _ _ _
      rw [e1.1, e1.2]
      exact mkp_nil _ _ (HBW.out.trans (HB2.out.mono HBW.out.size))
    clear HM5 HIS HIU HIK HH HH2 HH3 HH4 HH5 HH6 HWi hU hK hR
    go_wp2
    go_ret2
    exact HF.out
  | true =>
  go_wp2_with fail
  refine (hU _).mono ?_
  rintro e w1' ⟨rfl, hw1⟩
  subst hw1
  clear hU
  cases B4 with
  | false =>
    have HF : Hid (MkP er rs w (.returned (.tuple #[.slice none 0 0, .int .i64 50])) w2) := by
      have e1 : mk5 o n mtu l lo up ck sr = (50, []) := by unfold mk5; rw [if_neg (by rw [HIS.out]; decide), if_neg (by rw [HH3.out]; decide), if_pos HIU.out]
      rw [HM5.out, Prod.mk.injEq] at e1
      show MkP _ _ _ _ _
      rw [e1.1, e1.2]
      exact mkp_nil _ _ (HBW.out.trans (HB2.out.mono HBW.out.size))
    clear HM5 HIS HIU HIK HH HH2 HH3 HH4 HH5 HH6 HWi hK hR
    go_wp2
    go_ret2
    exact HF.out
  | true =>
  go_wp2_with fail
  refine (hK _).mono ?_
  rintro e w1' ⟨rfl, hw1⟩
  subst hw1
  clear hK
  cases B5 with
  | false =>
    have HF : Hid (MkP er rs w (.returned (.tuple #[.slice none 0 0, .int .i64 1])) w2) := by
      have e1 : mk5 o n mtu l lo up ck sr = (1, []) := by unfold mk5; rw [if_neg (by rw [HIS.out]; decide), if_neg (by rw [HH3.out]; decide), if_neg (by rw [HIU.out]; decide), if_pos (show inK ck sr = false from HIK.out)]
      rw [HM5.out, Prod.mk.injEq] at e1
      show MkP _ _ _ _ _
      rw [e1.1, e1.2]
      exact mkp_nil _ _ (HBW.out.trans (HB2.out.mono HBW.out.size))
    clear HM5 HIS HIU HIK HH HH2 HH3 HH4 HH5 HH6 HWi hR
    go_wp2
    go_ret2
    exact HF.out
  | true =>
  go_wp2_with fail
  refine (hR _).mono ?_
  rintro e w1' ⟨rfl, hw1⟩
  subst hw1
  clear hR
  cases B6 with
  | false =>
    have HF : Hid (MkP er rs w (.returned (.tuple #[.slice none 0 0, .int .i64 1])) w2) := by
      have e1 : mk5 o n mtu l lo up ck sr = (1, []) := by unfold mk5; rw [if_neg (by rw [HIS.out]; decide), if_neg (by rw [HH3.out]; decide), if_neg (by rw [HIU.out]; decide), if_pos (show inK ck sr = false from HIK.out)]
      rw [HM5.out, Prod.mk.injEq] at e1
      show MkP _ _ _ _ _
      rw [e1.1, e1.2]
      exact mkp_nil _ _ (HBW.out.trans (HB2.out.mono HBW.out.size))
    clear HM5 HIS HIU HIK HH HH2 HH3 HH4 HH5 HH6 HWi
    go_wp2
    go_ret2
    exact HF.out
  | true =>
  have hWi := HWi.out w2 (HBW.out.trans (HB2.out.mono HBW.out.size))
  clear HWi
  go_wp2_with fail
  refine hWi.mono ?_
  rintro e w3 ⟨v3, u, e3, rfl, hs3, hg3, hb3⟩
  have hset : C.IsSet l := C.setB_iff.mp HH3.out
  have q1 : (1 ≤ o ∧ o ≤ 4611686018427387903) ∧ (1 ≤ n ∧ n ≤ 4611686018427387902) := HH.out.mpr (by trivial)
  have q2 : 80 ≤ mtu ∧ mtu ≤ 4096 := HH2.out.mpr (by trivial)
  have q4 : 0 ≤ lo ∧ lo < up ∧ up ≤ 65536 := HH4.out.mpr (by trivial)
  have q5 : 0 ≤ ck ∧ ck ≤ 4611686018427387903 := HH5.out.mpr (by trivial)
  have q6 : 1 ≤ sr ∧ sr ≤ 4611686018427387903 := HH6.out.mpr (by trivial)
  have hln : (C.wth l (lo, up)).length ≤ 2000 := by
    have hz := (hg3.within hset ⟨q4.1, by show lo ≤ up; omega, by show up ≤ _; omega⟩).1
    rcases hg3 with ⟨q, _⟩ | ⟨_, _, ⟨q, _, _⟩ | ⟨q, q7, _⟩⟩
    · exact absurd ⟨hset, q4.1, by show lo ≤ up; omega, by show up ≤ _; omega⟩ q
    · exact q
    · omega
  obtain ⟨rfl, rfl⟩ := hg3.within hset ⟨q4.1, by show lo ≤ up; omega, by show up ≤ _; omega⟩
  have HB3 : Hid (Below W.heap.size W w3) := HB2.out.trans (hb3.mono HB2.out.size)
  obtain ⟨a3, c3, hv3⟩ := hs3.shape
  subst hv3
  have hws : W.heap.size = w.heap.size + 1 := by rw [← HWe.out, World.size_alloc]
  have hr3 : w3.heap[w.heap.size]? = some (.cells #[.int .i64 o, .int .i64 n] 23 (0, 0)) := (HB3.out.block _ (by omega)).trans HRW.out
  have s0 : w3.cell? ⟨w.heap.size, 0, none⟩ = some (.int .i64 o) := (cell_of_row _ _ _ _ _ _ hr3).trans rfl
  have s1 : w3.cell? ⟨w.heap.size, 1, none⟩ = some (.int .i64 n) := (cell_of_row _ _ _ _ _ _ hr3).trans rfl
  have hls := (hs3.ls (by omega)).shape
  obtain ⟨a4, c4, hv4, _, hc4, hc5⟩ := hls
  simp only [Value.slice.injEq] at hv4
  obtain ⟨rfl, _, rfl⟩ := hv4
  have hDl := deal5_any ⟨o, n, mtu, ck, up⟩ ⟨q1.1, q1.2, q2, q5, q4.2.2⟩ lo sr (C.wth l (lo, up)) a3 c3 w3 (cin_own hs3 (by omega)) hc4 hc5 hln q6.2 ⟨q4.1, q6.1, wth_ok hset q4.1 q4.2.2⟩ (HT.out.below (HBW.out.trans (HB3.out.mono HBW.out.size)) h00)
  have HM6 : Hid (er = dlE (dl5 ⟨o, n, mtu, ck, up⟩ ((C.wth l (lo, up)).length + 1) lo sr (C.wth l (lo, up))) ∧ rs = dlL (dl5 ⟨o, n, mtu, ck, up⟩ ((C.wth l (lo, up)).length + 1) lo sr (C.wth l (lo, up)))) := by
    have e1 := HM5.out
    unfold mk5 at e1
    rw [if_neg (by rw [HIS.out]; decide), if_neg (by rw [HH3.out]; decide), if_neg (by rw [HIU.out]; decide), if_neg (by rw [HIK.out]; decide), Prod.mk.injEq] at e1
    exact ⟨e1.1.symm, e1.2.symm⟩
  obtain ⟨N, hN⟩ : ∃ N, (C.wth l (lo, up)).length = N := ⟨_, rfl⟩
  clear hWi hb3 HB2 hws hr3 HM5 HIS HIU HIK HH HH2 HH3 HH4 HH5 HH6 hg3 hset q1 q2 q4 q5 q6 hln hc4 hc5 hs3
  rw [← HM6.out.1, ← HM6.out.2, hN] at hDl
  rw [hN]
  clear hN HM6
  go_wp2_with fail
  refine hDl.mono ?_
  rintro e w4 h4
  have HF : Hid (MkP er rs w e w4) := h4.base (HBW.out.trans (HB3.out.mono HBW.out.size))
  obtain ⟨a5, c5, os5, rfl, hh⟩ := h4
  clear hDl hh
  go_wp2
  go_ret2
  exact HF.out

end Go.Proofs.YtkkmoplijicmpaeDoor

namespace Go.Proofs.YtkkmoplijicmpaeDoor
open Go.RowKit
set_option linter.unusedVariables false

theorem mk5_two : mk5 1 5 1000 [(0, 10), (20, 30)] 5 25 3 7 = (0, [⟨7, 3, 25, 5, [(5, 10), (20, 25)]⟩]) := by kernel_rfl
theorem ms5_two : (C.pick false (C.pc 40 5 [(0, 10), (20, 30)])).take 2000 = [(10, 20), (30, 40)] := by decide

set_option maxRecDepth 100000 in
set_option maxHeartbeats 4000000 in
theorem five5_any (w : World) : Calls Tryd.prog 68 #[] w fun e w' => e = .returned (.agg #[.int .i64 1, .int .i64 5]) ∧ Below w.heap.size w w' := by
  go_enter Tryd.func68, Tryd.ntmps68
  go_wp2
  refine bodyPost_ret (v := .agg #[.int .i64 1, .int .i64 5]) (by simp [results, Tryd.results68, go_sem]) rfl ?_
  exact ⟨rfl, (Below.refl _ _).alloc (Nat.le_refl _) _⟩

theorem two_ls (w : World) (a b c d : Int) {W : World} {g : Nat} (h : W.heap[g]? = some (.cells #[.int .i64 a, .int .i64 b, .int .i64 c, .int .i64 d] 36 (0, 0))) : C.Ls W (.slice (some ⟨g, 0, none⟩) 2 2) [(a, b), (c, d)] := by
  refine ⟨⟨some ⟨g, 0, none⟩, 2, rfl, .inr ⟨g, 0, rfl, fun i p hp => ?_⟩, by simp, by omega⟩, by simp⟩
  match i, hp with
  | 0, hp => cases hp; exact ⟨(cell_of_row _ _ _ _ _ _ h).trans rfl, (cell_of_row _ _ _ _ _ _ h).trans rfl⟩
  | 1, hp => cases hp; exact ⟨(cell_of_row _ _ _ _ _ _ h).trans rfl, (cell_of_row _ _ _ _ _ _ h).trans rfl⟩
theorem ls_cin {w : World} {v : Value} {l : List (Int × Int)} (h : C.Ls w v l) (hl : l.length ≤ 1048576) : CIn w v l := by
  obtain ⟨a, c, rfl, hs, _⟩ := h.shape
  exact ⟨⟨a, c, rfl, hs⟩, hl⟩

set_option maxRecDepth 100000 in
set_option maxHeartbeats 8000000 in
theorem awake5_any (w : World) (hT : Tab w) : Calls Tryd.prog 23 #[] w fun e w' => e = .returned (.bool true) ∧ Below w.heap.size w w' := by
  have HT : Hid (Tab w) := hT
  have h00 : 0 < w.heap.size := World.block_lt_of_cell? w ⟨0, 0, none⟩ (hT 0 (by omega))
  obtain ⟨W, hW⟩ : ∃ W, ((w.alloc (.cells #[.int .i64 0, .int .i64 10, .int .i64 20, .int .i64 30] 36)).alloc (.cells #[.int .i64 5, .int .i64 10, .int .i64 20, .int .i64 25] 36)).alloc (.cells #[.int .i64 7, .int .i64 3, .int .i64 25, .int .i64 5, .slice (some ⟨w.heap.size + 1, 0, none⟩) 2 2] 75) = W := ⟨_, rfl⟩
  have HWe : Hid (_ = W) := hW
  have HBW : Hid (Below w.heap.size w W) := by show Below _ _ _; rw [← hW]; exact (((Below.refl _ _).alloc (Nat.le_refl _) _).alloc (by simp) _).alloc (by simp; omega) _
  have r0 : W.heap[w.heap.size]? = some (.cells #[.int .i64 0, .int .i64 10, .int .i64 20, .int .i64 30] 36 (0, 0)) := by rw [← hW]; exact al_old (al_old (al_new _ _))
  have r1 : W.heap[w.heap.size + 1]? = some (.cells #[.int .i64 5, .int .i64 10, .int .i64 20, .int .i64 25] 36 (0, 0)) := by
    rw [← hW]
    have := al_new (w.alloc (.cells #[.int .i64 0, .int .i64 10, .int .i64 20, .int .i64 30] 36)) (.cells #[.int .i64 5, .int .i64 10, .int .i64 20, .int .i64 25] 36)
    rw [World.size_alloc] at this
    exact al_old this
  have r2 : W.heap[w.heap.size + 1 + 1]? = some (.cells #[.int .i64 7, .int .i64 3, .int .i64 25, .int .i64 5, .slice (some ⟨w.heap.size + 1, 0, none⟩) 2 2] 75 (0, 0)) := by
    rw [← hW]
    have := al_new ((w.alloc (.cells #[.int .i64 0, .int .i64 10, .int .i64 20, .int .i64 30] 36)).alloc (.cells #[.int .i64 5, .int .i64 10, .int .i64 20, .int .i64 25] 36)) (.cells #[.int .i64 7, .int .i64 3, .int .i64 25, .int .i64 5, .slice (some ⟨w.heap.size + 1, 0, none⟩) 2 2] 75)
    rw [World.size_alloc, World.size_alloc] at this
    exact this
  have HL : Hid (C.Ls W (.slice (some ⟨w.heap.size, 0, none⟩) 2 2) [(0, 10), (20, 30)]) := two_ls w _ _ _ _ r0
  have HRL : Hid (RL5 W (some ⟨w.heap.size + 1 + 1, 0, none⟩) [⟨7, 3, 25, 5, [(5, 10), (20, 25)]⟩]) := .inr ⟨_, 0, rfl, fun i r hr => by
    match i, hr with
    | 0, hr =>
      cases hr
      exact ⟨some ⟨w.heap.size + 1, 0, none⟩, 2, ls_cin (two_ls w _ _ _ _ r1) (by simp), (cell_of_row _ _ _ _ _ _ r2).trans rfl, (cell_of_row _ _ _ _ _ _ r2).trans rfl, (cell_of_row _ _ _ _ _ _ r2).trans rfl, (cell_of_row _ _ _ _ _ _ r2).trans rfl, (cell_of_row _ _ _ _ _ _ r2).trans rfl⟩⟩
  have h5 := five5_any W
  clear hT hW r0 r1 r2
  go_enter Tryd.func23, Tryd.ntmps23
  go_wp2_with fail
  rw [HWe.out]
  refine h5.mono ?_
  rintro e w1 ⟨rfl, hb1⟩
  have hMk := make5_any 1 5 1000 _ _ 5 25 3 7 w1 (HL.out.below hb1) (HT.out.below (HBW.out.trans (hb1.mono HBW.out.size)) h00)
  rw [mk5_two] at hMk
  have HB1 : Hid (Below W.heap.size W w1) := hb1
  clear h5 hb1 HWe
  go_wp2_with fail
  refine hMk.mono ?_
  rintro e w2 ⟨a2, c2, os, rfl, hos, hr5, hfew, _, hb2⟩
  have HB2 : Hid (Below W.heap.size W w2) := HB1.out.trans (hb2.mono HB1.out.size)
  have HR2 : Hid (RL5 w2 a2 [⟨7, 3, 25, 5, [(5, 10), (20, 25)]⟩]) := by
    obtain ⟨a', c', hv, h⟩ := hr5.rl (fun o ho => by have := hfew o.r (by rw [hos]; exact List.mem_map_of_mem ho); omega)
    simp only [Value.slice.injEq] at hv
    obtain ⟨rfl, _, rfl⟩ := hv
    show RL5 _ _ _
    rw [hos]
    exact h
  clear hMk hos hr5 hfew hb2 HB1
  have hMs := C.missing_any 5 40 (HL.out.below HB2.out)
  go_wp2_with fail
  refine hMs.mono ?_
  rintro e w3 ⟨v3, u3, e3, rfl, hs3, hm3, hb3⟩
  have HU3 : Hid (u3 = [(10, 20), (30, 40)] ∧ e3 = 0) := by
    rcases hm3 with ⟨q, _⟩ | ⟨_, q, _⟩ | ⟨_, _, q, q2⟩
    · exact absurd ⟨by simp, by simp [C.Rt]⟩ q
    · exact absurd (by unfold C.inB; omega) q
    · exact ⟨q2.trans ms5_two, q⟩
  obtain ⟨hu3, he3⟩ := HU3.out
  subst hu3 he3
  obtain ⟨a3, c3, hv3⟩ := hs3.shape
  subst hv3
  have HB3 : Hid (Below W.heap.size W w3) := HB2.out.trans (hb3.mono HB2.out.size)
  have HR3 : Hid (RL5 w3 a2 [⟨7, 3, 25, 5, [(5, 10), (20, 25)]⟩]) := HR2.out.below hb3
  have HC3 : Hid (CIn w3 (.slice a3 2 c3) [(10, 20), (30, 40)]) := cin_own hs3 (by simp)
  have hSa := sameAll5_eq [⟨7, 3, 25, 5, [(5, 10), (20, 25)]⟩] a2 (some ⟨w.heap.size + 1 + 1, 0, none⟩) 1 c2 1 w3 rfl (by omega) HR3.out (HRL.out.below HB3.out)
  clear hMs hs3 hm3 hb3 HB2 HR2 HU3
  go_wp2_with fail
  refine hSa.mono ?_
  rintro e w4 ⟨rfl, hb4⟩
  have HB4 : Hid (Below W.heap.size W w4) := HB3.out.trans (hb4.mono HB3.out.size)
  obtain ⟨V, hV⟩ : ∃ V, w4.alloc (.cells #[.int .i64 10, .int .i64 20, .int .i64 30, .int .i64 40] 36) = V := ⟨_, rfl⟩
  have HVe : Hid (w4.alloc (.cells #[.int .i64 10, .int .i64 20, .int .i64 30, .int .i64 40] 36) = V) := hV
  have HBV : Hid (Below w4.heap.size w4 V) := by show Below _ _ _; rw [← hV]; exact (Below.refl _ _).alloc (Nat.le_refl _) _
  have hSs := sameSpans_gen (.slice a3 2 c3) (.slice (some ⟨w4.heap.size, 0, none⟩) 2 2) [(10, 20), (30, 40)] [(10, 20), (30, 40)] V ((HC3.out.below hb4).below HBV.out) (ls_cin (two_ls w _ _ _ _ (by rw [← hV]; exact al_new _ _)) (by simp))
  clear hSa hb4 hV HC3 HR3
  go_wp2_with fail
  rw [HVe.out]
  refine hSs.mono ?_
  rintro e w5 ⟨q, rfl, hq, hb5⟩
  obtain rfl : q = true := hq (by trivial)
  have HB5 : Hid (Below w.heap.size w w5) := by
    have h1 := HBW.out.trans (HB4.out.mono HBW.out.size)
    have h2 := h1.trans (HBV.out.mono h1.size)
    exact h2.trans (hb5.mono h2.size)
  clear hSs hq hb5
  go_wp2
  go_ret
  exact ⟨rfl, HB5.out⟩

end Go.Proofs.YtkkmoplijicmpaeDoor
