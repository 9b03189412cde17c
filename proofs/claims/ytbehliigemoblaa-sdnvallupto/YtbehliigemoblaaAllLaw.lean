import Derived.Test.YtbehliigemoblaaAwake
import Derived.Test.YtbehliigemoblaaLent
import Derived.Test.YtbehliigemoblaaRefAll
import Derived.Test.YtbehliigemoblaaSame
import Derived.Test.YtbehliigemoblaaMine
namespace Go.Proofs.Ytbehliigemoblaa
open Go.RowKit

theorem own_below {w w' : World} {base n B : Nat} {e : TypeId} {v : Value} {xs : List Value} (h : w.ownsRow base e 1 v n xs) (hv : ∀ g, v.ownBlock = some g → g < B) (hb : Below B w w') : w'.ownsRow base e 1 v n xs := by
  obtain ⟨h1, h2⟩ := h
  refine ⟨h1, ?_⟩
  rcases h2 with h2 | ⟨g, cap, cur, rfl, hg, hh, r⟩
  · exact .inl h2
  · exact .inr ⟨g, cap, cur, rfl, hg, (hb.block g (hv g rfl)).trans hh, r⟩

theorem own_rw {W : World} {base n cap : Nat} {t : TypeId} {a : Option Addr} {xs : List Value} (k : IntKind) (h : W.ownsRow base t 1 (.slice a n cap) n xs) : ∃ r : Rw, sv r = .slice a n cap ∧ r.n = n ∧ Has W t k r 0 0 ∧ ∀ g, r.blk = some g → (Value.slice a n cap).ownBlock = some g := by
  obtain ⟨_, ⟨hv, h0⟩ | ⟨g, cap', cur, hv, hb, hg, h1, h2, h3, _⟩⟩ := h
  · simp only [Value.slice.injEq] at hv
    obtain ⟨rfl, rfl, rfl⟩ := hv
    exact ⟨⟨none, 0, 0⟩, rfl, rfl, .inl ⟨rfl, rfl, rfl⟩, fun g h => by cases h⟩
  · simp only [Value.slice.injEq] at hv
    obtain ⟨rfl, _, rfl⟩ := hv
    exact ⟨⟨some g, n, cap⟩, rfl, rfl, .inr ⟨g, cur, rfl, hg, by simpa using h3, h2, h1, fun j hj => by omega⟩, fun g' h => h⟩

/-- Four rows in a list that was made of them: each in a block of its own. -/
theorem given4 {W : World} {t tt : TypeId} {k : IntKind} {B : Nat} {r0 r1 r2 r3 : Rw} {b0 b1 b2 b3 b4 b5 : Nat} (h0 : Has W t k r0 0 0) (h1 : Has W t k r1 0 0) (h2 : Has W t k r2 0 0) (h3 : Has W t k r3 0 0)
    (p0 : ∀ g, r0.blk = some g → b0 ≤ g ∧ g < b1) (p1 : ∀ g, r1.blk = some g → b1 ≤ g ∧ g < b2) (p2 : ∀ g, r2.blk = some g → b2 ≤ g ∧ g < b3) (p3 : ∀ g, r3.blk = some g → b4 ≤ g ∧ g < b5) (hB : B ≤ b0) (h34 : b3 ≤ b4) (h01 : b0 ≤ b1) (h12 : b1 ≤ b2) (h23 : b2 ≤ b3) (hW : B ≤ W.heap.size) :
    Given (W.alloc (.cells #[sv r0, sv r1, sv r2, sv r3] tt)) t k 4 W.heap.size B (fun i => match i with | 0 => r0 | 1 => r1 | 2 => r2 | _ => r3) := by
  have al : ∀ r : Rw, Has W t k r 0 0 → Has (W.alloc (.cells #[sv r0, sv r1, sv r2, sv r3] tt)) t k r 0 0 := fun r h => h.keep fun g _ hg => Below.heap_alloc _ _ _ hg
  refine ⟨?_, ?_, ?_, ?_, ?_, by simp; omega, by simp⟩
  · intro i hi
    match i, hi with
    | 0, _ => simp
    | 1, _ => simp
    | 2, _ => simp
    | 3, _ => simp
  · intro i hi
    match i, hi with
    | 0, _ => exact ⟨0, al _ h0⟩
    | 1, _ => exact ⟨0, al _ h1⟩
    | 2, _ => exact ⟨0, al _ h2⟩
    | 3, _ => exact ⟨0, al _ h3⟩
  · intro i j hi hj hij g hg e
    match i, hi, j, hj with
    | 0, _, 0, _ => exact hij rfl
    | 1, _, 1, _ => exact hij rfl
    | 2, _, 2, _ => exact hij rfl
    | 3, _, 3, _ => exact hij rfl
    | 0, _, 1, _ => have := p0 g hg; have := p1 g e; omega
    | 0, _, 2, _ => have := p0 g hg; have := p2 g e; omega
    | 0, _, 3, _ => have := p0 g hg; have := p3 g e; omega
    | 1, _, 0, _ => have := p1 g hg; have := p0 g e; omega
    | 1, _, 2, _ => have := p1 g hg; have := p2 g e; omega
    | 1, _, 3, _ => have := p1 g hg; have := p3 g e; omega
    | 2, _, 0, _ => have := p2 g hg; have := p0 g e; omega
    | 2, _, 1, _ => have := p2 g hg; have := p1 g e; omega
    | 2, _, 3, _ => have := p2 g hg; have := p3 g e; omega
    | 3, _, 0, _ => have := p3 g hg; have := p0 g e; omega
    | 3, _, 1, _ => have := p3 g hg; have := p1 g e; omega
    | 3, _, 2, _ => have := p3 g hg; have := p2 g e; omega
  · intro i hi e
    match i, hi with
    | 0, _ => have := h0.lt e; omega
    | 1, _ => have := h1.lt e; omega
    | 2, _ => have := h2.lt e; omega
    | 3, _ => have := h3.lt e; omega
  · intro i hi g e
    match i, hi with
    | 0, _ => have := p0 g e; omega
    | 1, _ => have := p1 g e; omega
    | 2, _ => have := p2 g e; omega
    | 3, _ => have := p3 g e; omega

theorem drewN_own {w : World} {base n : Nat} {e : TypeId} {v : Value} {xs : List Value} (h : w.ownsRow base e 1 v n xs) (nd : Nat) : (w.drewN nd).ownsRow base e 1 v n xs := h

set_option maxHeartbeats 2000000 in
theorem all_law (a : Option Addr) (zs : List Int) (len cap : Nat) (a' : Option Addr) (zs' : List Int) (len' cap' : Nat) (w : World) (hb : Bytey zs) (hb' : Bytey zs') (hl : zs.length = len) (hl' : zs'.length = len') (hlc : len ≤ cap) (hlc' : len' ≤ cap') (hm : cap ≤ 1048576) (hm' : cap' ≤ 1048576)
    (hc : Lies .u8 w a zs) (hc' : Lies .u8 w a' zs') (_ : a = none → len = 0 ∧ cap = 0) (_ : a' = none → len' = 0 ∧ cap' = 0) :
    Calls Try.prog 6 #[.slice a len cap, .slice a' len' cap'] w fun e w' => e = .returned (.bool true) ∧ Below w.heap.size w w' := by
  have HL : Hid (zs.length = len) := hl
  have HL' : Hid (zs'.length = len') := hl'
  have HB : Hid (Bytey zs) := hb
  have HB' : Hid (Bytey zs') := hb'
  have HC : Hid (Lies .u8 w a zs) := hc
  have HC' : Hid (Lies .u8 w a' zs') := hc'
  have hal := (jn_al zs hb).2.1
  have hal' := (jn_al zs' hb').2.1
  rw [hl] at hal
  rw [hl'] at hal'
  clear hl hl' hb hb' hc hc'
  go_enter Try.func6, Try.ntmps6
  go_wp2_with fail
  refine (awake_any _).mono ?_
  rintro e w1 ⟨rfl, hb1⟩
  go_wp2_with fail
  refine (lent_any a zs len cap w1 HL.out (by omega) (HC.out.below hb1)).mono ?_
  rintro e w2 ⟨rfl, hg2, hb2⟩
  have s1 := hb1.size
  have s2 : w1.heap.size < w2.heap.size := hg2.lt
  have HW2 : Hid (Below w.heap.size w w2) := hb1.trans (hb2.mono hb1.size)
  have HG2 : Hid (Blk .u8 w2 w1.heap.size 5 (marked zs)) := hg2
  have HIn : Hid (Lies .u8 w2 (some ⟨w1.heap.size, 0, none⟩) zs) := by have := HG2.out.lies len; rw [marked_take zs len HL.out] at this; exact this
  clear hb1 hb2 hg2
  go_wp2_with fail
  refine (all_any _ zs len (len + 9) w2 HB.out HL.out (by omega) (by omega) (by omega) HIn.out).mono ?_
  rintro e w3 ⟨a1, c1, rfl, o1, hb3⟩
  have s3 := hb3.size
  have HW3 : Hid (Below w.heap.size w w3) := HW2.out.trans (hb3.mono (by omega))
  have P1 : Hid (∀ g, (Value.slice a1 (al zs).1.length c1).ownBlock = some g → w2.heap.size ≤ g ∧ g < w3.heap.size) := fun g hg => o1.lt g hg
  have O1 : Hid (w3.ownsRow w2.heap.size 27 1 (.slice a1 (al zs).1.length c1) (al zs).1.length ((al zs).1.map (Value.int .u64))) := o1
  have HG3 : Hid (Blk .u8 w3 w1.heap.size 5 (marked zs)) := HG2.out.below hb3 s2
  have HIn3 : Hid (Lies .u8 w3 (some ⟨w1.heap.size, 0, none⟩) zs) := HIn.out.below hb3
  clear o1 hb3 HIn HG2
  go_wp2_with fail
  refine (all_any a' zs' len' cap' w3 HB'.out HL'.out hlc' (by omega) (by omega) (HC'.out.below HW3.out)).mono ?_
  rintro e w4 ⟨a2, c2, rfl, o2, hb4⟩
  have s4 := hb4.size
  have HW4 : Hid (Below w.heap.size w w4) := HW3.out.trans (hb4.mono (by omega))
  have P2 : Hid (∀ g, (Value.slice a2 (al zs').1.length c2).ownBlock = some g → w3.heap.size ≤ g ∧ g < w4.heap.size) := fun g hg => o2.lt g hg
  have O2 : Hid (w4.ownsRow w3.heap.size 27 1 (.slice a2 (al zs').1.length c2) (al zs').1.length ((al zs').1.map (Value.int .u64))) := o2
  have O1_4 : Hid (w4.ownsRow w2.heap.size 27 1 (.slice a1 (al zs).1.length c1) (al zs).1.length ((al zs).1.map (Value.int .u64))) := own_below O1.out (fun g hg => (P1.out g hg).2) hb4
  have HG4 : Hid (Blk .u8 w4 w1.heap.size 5 (marked zs)) := HG3.out.below hb4 (by omega)
  have HIn4 : Hid (Lies .u8 w4 (some ⟨w1.heap.size, 0, none⟩) zs) := HIn3.out.below hb4
  clear o2 hb4 HIn3 HG3 O1
  go_wp2_with fail
  refine (all_any _ zs len (len + 9) w4 HB.out HL.out (by omega) (by omega) (by omega) HIn4.out).mono ?_
  rintro e w5 ⟨a3, c3, rfl, o3, hb5⟩
  have s5 := hb5.size
  have HW5 : Hid (Below w.heap.size w w5) := HW4.out.trans (hb5.mono (by omega))
  have P3 : Hid (∀ g, (Value.slice a3 (al zs).1.length c3).ownBlock = some g → w4.heap.size ≤ g ∧ g < w5.heap.size) := fun g hg => o3.lt g hg
  have O3 : Hid (w5.ownsRow w4.heap.size 27 1 (.slice a3 (al zs).1.length c3) (al zs).1.length ((al zs).1.map (Value.int .u64))) := o3
  have O2_5 : Hid (w5.ownsRow w3.heap.size 27 1 (.slice a2 (al zs').1.length c2) (al zs').1.length ((al zs').1.map (Value.int .u64))) := own_below O2.out (fun g hg => (P2.out g hg).2) hb5
  have O1_5 : Hid (w5.ownsRow w2.heap.size 27 1 (.slice a1 (al zs).1.length c1) (al zs).1.length ((al zs).1.map (Value.int .u64))) := own_below O1_4.out (fun g hg => Nat.lt_of_lt_of_le (P1.out g hg).2 s4) hb5
  have HG5 : Hid (Blk .u8 w5 w1.heap.size 5 (marked zs)) := HG4.out.below hb5 (by omega)
  clear o3 hb5 HIn4 HG4 O1_4 O2
  go_wp2_with fail
  refine (back_any w1.heap.size a zs len (len + 9) cap w5 HB.out HL.out rfl (by omega) (HC.out.below HW5.out) (HC.out.apart s1) HG5.out).mono ?_
  rintro e w6 ⟨rfl, hg6, hgr⟩
  have s6 := hgr.size
  have HW6 : Hid (Below w.heap.size w w6) := HW5.out.grown hgr (by omega) (by intro j hj; simp at hj; omega)
  have nm : ∀ (v : Value) (lo hi : Nat), (∀ g, v.ownBlock = some g → lo ≤ g ∧ g < hi) → w1.heap.size < lo → v.ownBlock = none ∨ v.ownBlock ≠ some w1.heap.size := by
    intro v lo hi hv hlo
    cases h : v.ownBlock with
    | none => left; rfl
    | some g => right; intro e; simp only [Option.some.injEq] at e; have := hv g h; omega
  have O1_6 : Hid (w6.ownsRow w2.heap.size 27 1 (.slice a1 (al zs).1.length c1) (al zs).1.length ((al zs).1.map (Value.int .u64))) := O1_5.out.kept hgr (nm _ _ _ P1.out (by omega))
  have O2_6 : Hid (w6.ownsRow w3.heap.size 27 1 (.slice a2 (al zs').1.length c2) (al zs').1.length ((al zs').1.map (Value.int .u64))) := O2_5.out.kept hgr (nm _ _ _ P2.out (by omega))
  have O3_6 : Hid (w6.ownsRow w4.heap.size 27 1 (.slice a3 (al zs).1.length c3) (al zs).1.length ((al zs).1.map (Value.int .u64))) := O3.out.kept hgr (nm _ _ _ P3.out (by omega))
  have HG6 : Hid (Lies .u8 w6 (some ⟨w1.heap.size, 0, none⟩) ((halved (marked zs)).take len)) := hg6.lies len
  have HL6 : Hid (((halved (marked zs)).take len).length = len) := by unfold Hid; rw [List.length_take, halved_length, marked_length]; have := HL.out; omega
  have HB6 : Hid (Bytey ((halved (marked zs)).take len)) := fun z hz => halved_bytes (marked_bytes HB.out) z (List.mem_of_mem_take hz)
  clear nm hgr hg6 O1_5 O2_5 O3 HG5
  generalize (halved (marked zs)).take len = ys at HG6 HL6 HB6
  have hal6 := (jn_al ys HB6.out).2.1
  rw [HL6.out] at hal6
  go_wp2_with fail
  refine (all_any _ ys len (len + 9) w6 HB6.out HL6.out (by omega) (by omega) (by omega) HG6.out).mono ?_
  rintro e w7 ⟨a4, c4, rfl, o4, hb7⟩
  have s7 := hb7.size
  have HW7 : Hid (Below w.heap.size w w7) := HW6.out.trans (hb7.mono (by omega))
  have P4 : Hid (∀ g, (Value.slice a4 (al ys).1.length c4).ownBlock = some g → w6.heap.size ≤ g ∧ g < w7.heap.size) := fun g hg => o4.lt g hg
  have O4 : Hid (w7.ownsRow w6.heap.size 27 1 (.slice a4 (al ys).1.length c4) (al ys).1.length ((al ys).1.map (Value.int .u64))) := o4
  have O1_7 := own_below O1_6.out (fun g hg => Nat.lt_of_lt_of_le (P1.out g hg).2 (Nat.le_trans s4 (Nat.le_trans s5 s6))) hb7
  have O2_7 := own_below O2_6.out (fun g hg => Nat.lt_of_lt_of_le (P2.out g hg).2 (Nat.le_trans s5 s6)) hb7
  have O3_7 := own_below O3_6.out (fun g hg => Nat.lt_of_lt_of_le (P3.out g hg).2 s6) hb7
  have HIn7 : Hid (Lies .u8 w7 (some ⟨w1.heap.size, 0, none⟩) ys) := HG6.out.below hb7
  have X : Hid (∀ W : World, Below w7.heap.size w7 W → W.ownsRow w2.heap.size 27 1 (.slice a1 (al zs).1.length c1) (al zs).1.length ((al zs).1.map (Value.int .u64)) ∧ W.ownsRow w3.heap.size 27 1 (.slice a2 (al zs').1.length c2) (al zs').1.length ((al zs').1.map (Value.int .u64)) ∧ W.ownsRow w4.heap.size 27 1 (.slice a3 (al zs).1.length c3) (al zs).1.length ((al zs).1.map (Value.int .u64)) ∧ W.ownsRow w6.heap.size 27 1 (.slice a4 (al ys).1.length c4) (al ys).1.length ((al ys).1.map (Value.int .u64))) := fun W hW =>
    ⟨own_below O1_7 (fun g hg => (O1_7.lt g hg).2) hW, own_below O2_7 (fun g hg => (O2_7.lt g hg).2) hW, own_below O3_7 (fun g hg => (O3_7.lt g hg).2) hW, own_below O4.out (fun g hg => (O4.out.lt g hg).2) hW⟩
  clear o4 hb7 HG6 O1_6 O2_6 O3_6 O4 O1_7 O2_7 O3_7
  go_wp2_with fail
  refine (refall_any a zs len cap w7 HB.out HL.out hlc (by omega) (by omega) (HC.out.below HW7.out)).mono ?_
  rintro e w8 ⟨b1, d1, rfl, q1, hb8⟩
  have s8 := hb8.size
  have HW8 : Hid (Below w.heap.size w w8) := HW7.out.trans (hb8.mono (by omega))
  have Q1 : Hid (w8.ownsRow w7.heap.size 27 1 (.slice b1 (al zs).1.length d1) (al zs).1.length ((al zs).1.map (Value.int .u64))) := q1
  have HX8 : Hid (Below w7.heap.size w7 w8) := hb8
  clear q1 hb8
  go_wp2_with fail
  refine (refall_any a' zs' len' cap' w8 HB'.out HL'.out hlc' (by omega) (by omega) (HC'.out.below HW8.out)).mono ?_
  rintro e w9 ⟨b2, d2, rfl, q2, hb9⟩
  have s9 := hb9.size
  have HW9 : Hid (Below w.heap.size w w9) := HW8.out.trans (hb9.mono (by omega))
  have Q2 : Hid (w9.ownsRow w8.heap.size 27 1 (.slice b2 (al zs').1.length d2) (al zs').1.length ((al zs').1.map (Value.int .u64))) := q2
  have Q1_9 : Hid (w9.ownsRow w7.heap.size 27 1 (.slice b1 (al zs).1.length d1) (al zs).1.length ((al zs).1.map (Value.int .u64))) := own_below Q1.out (fun g hg => (Q1.out.lt g hg).2) hb9
  have HX9 : Hid (Below w7.heap.size w7 w9) := HX8.out.trans (hb9.mono s8)
  clear q2 hb9 Q1 HX8
  go_wp2_with fail
  refine (refall_any _ ys len (len + 9) w9 HB6.out HL6.out (by omega) (by omega) (by omega) (HIn7.out.below HX9.out)).mono ?_
  rintro e w10 ⟨b3, d3, rfl, q3, hb10⟩
  have s10 := hb10.size
  have HW10 : Hid (Below w.heap.size w w10) := HW9.out.trans (hb10.mono (by omega))
  have L3 : Hid (Lies .u64 w10 b3 (al ys).1) := (own_lies q3).1
  have L1 : Hid (Lies .u64 w10 b1 (al zs).1) := (own_lies (own_below Q1_9.out (fun g hg => (Q1_9.out.lt g hg).2) hb10)).1
  have L2 : Hid (Lies .u64 w10 b2 (al zs').1) := (own_lies (own_below Q2.out (fun g hg => (Q2.out.lt g hg).2) hb10)).1
  have XX := X.out w10 (HX9.out.trans (hb10.mono (by omega)))
  have HX1 : Hid (w10.ownsRow w2.heap.size 27 1 (.slice a1 (al zs).1.length c1) (al zs).1.length ((al zs).1.map (Value.int .u64))) := XX.1
  have HX2 : Hid (w10.ownsRow w3.heap.size 27 1 (.slice a2 (al zs').1.length c2) (al zs').1.length ((al zs').1.map (Value.int .u64))) := XX.2.1
  have HX3 : Hid (w10.ownsRow w4.heap.size 27 1 (.slice a3 (al zs).1.length c3) (al zs).1.length ((al zs).1.map (Value.int .u64))) := XX.2.2.1
  have HX4 : Hid (w10.ownsRow w6.heap.size 27 1 (.slice a4 (al ys).1.length c4) (al ys).1.length ((al ys).1.map (Value.int .u64))) := XX.2.2.2
  clear q3 hb10 Q1_9 Q2 XX X HX9
  go_wp2_with fail
  refine (same_any a1 b1 (al zs).1 _ c1 d1 w10 rfl (by omega) (own_lies HX1.out).1 L1.out).mono ?_
  rintro e w11 ⟨rfl, n1, hw⟩
  subst hw
  go_wp2_with fail
  refine (same_any a2 b2 (al zs').1 _ c2 d2 _ rfl (by omega) ((own_lies HX2.out).1.below (below_drewN (Below.refl _ _) _)) (L2.out.below (below_drewN (Below.refl _ _) _))).mono ?_
  rintro e w11 ⟨rfl, n2, hw⟩
  subst hw
  go_wp2_with fail
  refine (same_any a3 b1 (al zs).1 _ c3 d1 _ rfl (by omega) ((own_lies HX3.out).1.below (below_drewN (Below.refl _ _) _)) (L1.out.below (below_drewN (Below.refl _ _) _))).mono ?_
  rintro e w11 ⟨rfl, n3, hw⟩
  subst hw
  go_wp2_with fail
  refine (same_any a4 b3 (al ys).1 _ c4 d3 _ rfl (by omega) ((own_lies HX4.out).1.below (below_drewN (Below.refl _ _) _)) (L3.out.below (below_drewN (Below.refl _ _) _))).mono ?_
  rintro e w11 ⟨rfl, n4, hw⟩
  subst hw
  go_wp2_with fail
  obtain ⟨r0, e0, m0, h0, p0⟩ := own_rw .u64 (drewN_own HX1.out (n1 + n2 + n3 + n4))
  obtain ⟨r1, e1, m1, h1, p1⟩ := own_rw .u64 (drewN_own HX2.out (n1 + n2 + n3 + n4))
  obtain ⟨r2, e2, m2, h2, p2⟩ := own_rw .u64 (drewN_own HX3.out (n1 + n2 + n3 + n4))
  obtain ⟨r3, e3, m3, h3, p3⟩ := own_rw .u64 (drewN_own HX4.out (n1 + n2 + n3 + n4))
  have G := given4 (tt := 31) (B := w.heap.size) h0 h1 h2 h3 (fun g hg => P1.out g (p0 g hg)) (fun g hg => P2.out g (p1 g hg)) (fun g hg => P3.out g (p2 g hg)) (fun g hg => P4.out g (p3 g hg)) (by omega) (by omega) (by omega) (by omega) (by omega) HW10.out.size
  rw [e0, e1, e2, e3] at G
  have HBl : Hid (Below w.heap.size w ((w10.drewN (n1 + n2 + n3 + n4)).alloc (.cells #[.slice a1 (al zs).1.length c1, .slice a2 (al zs').1.length c2, .slice a3 (al zs).1.length c3, .slice a4 (al ys).1.length c4] 31))) := (below_drewN HW10.out _).alloc HW10.out.size _
  refine (mine_any _ 4 w10.heap.size 4 w.heap.size _ G (by decide) (by decide) ?_).mono ?_
  · intro i hi
    match i, hi with
    | 0, _ => simp only [m0]; omega
    | 1, _ => simp only [m1]; omega
    | 2, _ => simp only [m2]; omega
    | 3, _ => simp only [m3]; omega
  · rintro e w12 ⟨rfl, hb12⟩
    have HB12 : Hid (Below w.heap.size w w12) := HBl.out.trans hb12
    clear G HBl hb12
    go_wp2
    go_ret
    exact ⟨rfl, HB12.out⟩

end Go.Proofs.Ytbehliigemoblaa
