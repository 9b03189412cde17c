import Derived.Test.YthbkabehjeidjaeDoorRq1
import Derived.Test.YthbkabehjeidjaeDoorRpU
import Derived.Deep.CutBlock
import Derived.Deep.RegionHeld3
namespace Go.Proofs.YthbkabehjeidjaeDoor
open Go.RowKit
set_option linter.unusedVariables false
set_option linter.unusedSimpArgs false

theorem spc_one (l : List (Int × Int)) : ∀ v ∈ l.flatMap C.spc, v.oneCell' = true := by
  intro v hv; obtain ⟨p, _, hp⟩ := List.mem_flatMap.mp hv; simp [C.spc] at hp; rcases hp with rfl | rfl <;> rfl
theorem laid_keep {W w9 : World} {b : Nat} {x : Obj} (h : W.heap[b + 3]? = some x) (hz : W.heap.size = b + 4) (hg : W.grownBy w9 (Value.slice none 0 0).ownBlock) : w9.heap[b + 1 + 1 + 1]? = some x := (hg.block (b + 3) (by omega) (fun e => by cases e)).trans h
theorem laid_keep2 {W w9 : World} {b : Nat} {x : Obj} (h : W.heap[b + 2]? = some x) (hz : W.heap.size = b + 4) (hg : W.grownBy w9 (Value.slice none 0 0).ownBlock) : w9.heap[b + 1 + 1]? = some x := (hg.block (b + 2) (by omega) (fun e => by cases e)).trans h
theorem laid_cells {V : World} {b : Nat} {k : Qu} {r : Rr} (hx : V.heap[b + 1]? = some (.cells (rsC k r none 0 0) 81 (0, 0))) (hy : V.heap[b]? = some (.cells #[.int .i64 0, .int .i64 0, .int .i64 0, .slice none 0 0, .slice none 0 0, .int .i64 0, .int .i64 0, .slice none 0 0, .int .i64 0, .int .i64 0, .int .i64 0, .int .i64 0, .slice none 0 0, .int .i64 0] 81 (0, 0))) : V.cell? ⟨b + 1, 0, none⟩ = some (.int .i64 8) ∧ V.cell? ⟨b + 1, 1, none⟩ = some (.int .i64 k.org) ∧ V.cell? ⟨b + 1, 2, none⟩ = some (.int .i64 k.num) ∧ V.cell? ⟨b + 1, 3, none⟩ = some (.slice none 0 0) ∧ V.cell? ⟨b + 1, 4, none⟩ = some (.slice none 0 0) ∧ V.cell? ⟨b + 1, 5, none⟩ = some (.int .i64 0) ∧ V.cell? ⟨b + 1, 6, none⟩ = some (.int .i64 0) ∧ V.cell? ⟨b + 1, 7, none⟩ = some (.slice none 0 0) ∧ V.cell? ⟨b + 1, 8, none⟩ = some (.int .i64 r.chk) ∧ V.cell? ⟨b + 1, 9, none⟩ = some (.int .i64 r.ser) ∧ V.cell? ⟨b + 1, 10, none⟩ = some (.int .i64 r.upp) ∧ V.cell? ⟨b + 1, 11, none⟩ = some (.int .i64 r.low) ∧ V.cell? ⟨b + 1, 12, none⟩ = some (.slice none 0 0) ∧ V.cell? ⟨b + 1, 13, none⟩ = some (.int .i64 0) ∧ V.frozen? ⟨b + 1, 12, none⟩ = false ∧ V.cell? ⟨b, 0, none⟩ = some (.int .i64 0) ∧ V.cell? ⟨b, 1, none⟩ = some (.int .i64 0) ∧ V.cell? ⟨b, 2, none⟩ = some (.int .i64 0) ∧ V.cell? ⟨b, 3, none⟩ = some (.slice none 0 0) ∧ V.cell? ⟨b, 4, none⟩ = some (.slice none 0 0) ∧ V.cell? ⟨b, 5, none⟩ = some (.int .i64 0) ∧ V.cell? ⟨b, 6, none⟩ = some (.int .i64 0) ∧ V.cell? ⟨b, 7, none⟩ = some (.slice none 0 0) ∧ V.cell? ⟨b, 8, none⟩ = some (.int .i64 0) ∧ V.cell? ⟨b, 9, none⟩ = some (.int .i64 0) ∧ V.cell? ⟨b, 10, none⟩ = some (.int .i64 0) ∧ V.cell? ⟨b, 11, none⟩ = some (.int .i64 0) ∧ V.cell? ⟨b, 12, none⟩ = some (.slice none 0 0) ∧ V.cell? ⟨b, 13, none⟩ = some (.int .i64 0) ∧ V.frozen? ⟨b, 0, none⟩ = false ∧ V.frozen? ⟨b, 1, none⟩ = false ∧ V.frozen? ⟨b, 2, none⟩ = false ∧ V.frozen? ⟨b, 3, none⟩ = false ∧ V.frozen? ⟨b, 4, none⟩ = false ∧ V.frozen? ⟨b, 5, none⟩ = false ∧ V.frozen? ⟨b, 6, none⟩ = false ∧ V.frozen? ⟨b, 7, none⟩ = false ∧ V.frozen? ⟨b, 8, none⟩ = false ∧ V.frozen? ⟨b, 9, none⟩ = false ∧ V.frozen? ⟨b, 10, none⟩ = false ∧ V.frozen? ⟨b, 11, none⟩ = false ∧ V.frozen? ⟨b, 12, none⟩ = false ∧ V.frozen? ⟨b, 13, none⟩ = false :=
  ⟨(cell_of_row _ _ _ _ _ _ hx).trans rfl, (cell_of_row _ _ _ _ _ _ hx).trans rfl, (cell_of_row _ _ _ _ _ _ hx).trans rfl, (cell_of_row _ _ _ _ _ _ hx).trans rfl, (cell_of_row _ _ _ _ _ _ hx).trans rfl, (cell_of_row _ _ _ _ _ _ hx).trans rfl, (cell_of_row _ _ _ _ _ _ hx).trans rfl, (cell_of_row _ _ _ _ _ _ hx).trans rfl, (cell_of_row _ _ _ _ _ _ hx).trans rfl, (cell_of_row _ _ _ _ _ _ hx).trans rfl, (cell_of_row _ _ _ _ _ _ hx).trans rfl, (cell_of_row _ _ _ _ _ _ hx).trans rfl, (cell_of_row _ _ _ _ _ _ hx).trans rfl, (cell_of_row _ _ _ _ _ _ hx).trans rfl, frozen_of_row _ _ _ _ _ hx, (cell_of_row _ _ _ _ _ _ hy).trans rfl, (cell_of_row _ _ _ _ _ _ hy).trans rfl, (cell_of_row _ _ _ _ _ _ hy).trans rfl, (cell_of_row _ _ _ _ _ _ hy).trans rfl, (cell_of_row _ _ _ _ _ _ hy).trans rfl, (cell_of_row _ _ _ _ _ _ hy).trans rfl, (cell_of_row _ _ _ _ _ _ hy).trans rfl, (cell_of_row _ _ _ _ _ _ hy).trans rfl, (cell_of_row _ _ _ _ _ _ hy).trans rfl, (cell_of_row _ _ _ _ _ _ hy).trans rfl, (cell_of_row _ _ _ _ _ _ hy).trans rfl, (cell_of_row _ _ _ _ _ _ hy).trans rfl, (cell_of_row _ _ _ _ _ _ hy).trans rfl, (cell_of_row _ _ _ _ _ _ hy).trans rfl, frozen_of_row _ _ _ _ _ hy, frozen_of_row _ _ _ _ _ hy, frozen_of_row _ _ _ _ _ hy, frozen_of_row _ _ _ _ _ hy, frozen_of_row _ _ _ _ _ hy, frozen_of_row _ _ _ _ _ hy, frozen_of_row _ _ _ _ _ hy, frozen_of_row _ _ _ _ _ hy, frozen_of_row _ _ _ _ _ hy, frozen_of_row _ _ _ _ _ hy, frozen_of_row _ _ _ _ _ hy, frozen_of_row _ _ _ _ _ hy, frozen_of_row _ _ _ _ _ hy, frozen_of_row _ _ _ _ _ hy⟩

/-- Two blocks alone were written. -/
structure Kp2 (w V : World) (b : Nat) : Prop where
  os : V.os = w.os
  tape : V.tape = w.tape
  output : V.output = w.output
  size : V.heap.size = w.heap.size
  block : ∀ g, g ≠ b → g ≠ b + 1 → V.heap[g]? = w.heap[g]?
theorem Kp2.refl (w : World) (b : Nat) : Kp2 w w b := ⟨rfl, rfl, rfl, rfl, fun _ _ _ => rfl⟩
theorem Kp2.set {w V : World} {b : Nat} (h : Kp2 w V b) (g i : Nat) (hg : g = b ∨ g = b + 1) (u : Value) : Kp2 w (V.setCell ⟨g, i, none⟩ u) b :=
  ⟨h.os, h.tape, h.output, by rw [← h.size]; simp, fun j h1 h2 => (Below.heap_setCell _ _ _ _ (by show j ≠ g; omega)).trans (h.block j h1 h2)⟩
theorem laid_end {w W w9 V : World} {n c9 : Nat} {a9 : Option Addr} {l : List (Int × Int)} (hb : Below w.heap.size w W) (hz : W.heap.size = w.heap.size + 4) (hg : W.grownBy w9 (Value.slice none 0 0).ownBlock) (ho : C.SOwn w9 W.heap.size (.slice a9 n c9) l) (hk : Kp2 w9 V (w.heap.size + 1 + 1)) : C.SOwn V w.heap.size (.slice a9 n c9) l ∧ Below w.heap.size w V := by
  have hgz := hg.size
  refine ⟨own_low5 (ho.blk2 fun g hgb => hk.block g (by have := (ho.lt g hgb).1; omega) (by have := (ho.lt g hgb).1; omega)) (by omega), hk.os.trans (hg.os.trans hb.os), hk.tape.trans (hg.tape.trans hb.tape), hk.output.trans (hg.output.trans hb.output), by rw [hk.size]; omega, fun g hgl => ?_⟩
  exact (hk.block g (by omega) (by omega)).trans ((hg.block g (by omega) (fun e => by cases e)).trans (hb.block g hgl))

set_option maxRecDepth 100000 in
set_option maxHeartbeats 8000000 in
theorem rqLaid_any (k : Qu) (r : Rr) (a : Option Addr) (n c : Nat) (hn : r.clm.length = n) (h1 : 1 ≤ n) (w : World) (hC : CIn w (.slice a n c) r.clm) :
    Calls Tryd.prog 86 #[.agg #[.int .i64 k.org, .int .i64 k.num], .agg (rpA r n a c)] w fun e w' => ∃ a' c', e = .returned (.agg (rsC k r a' n c')) ∧ C.SOwn w' w.heap.size (.slice a' n c') r.clm ∧ Below w.heap.size w w' := by
  obtain ⟨i0, hi, hz0, hz1, hz2⟩ := info_parts C.Tryd.info_span
  obtain ⟨g, off, rfl⟩ : ∃ g off, a = some ⟨g, off, none⟩ := by
    obtain ⟨p, hp⟩ := get_one r.clm 0 (by omega)
    obtain ⟨g, off, he, _⟩ := hC.at hp
    exact ⟨g, off, he⟩
  obtain ⟨W, hW⟩ : ∃ W, (((w.alloc (.cells #[.int .i64 k.org, .int .i64 k.num] 23)).alloc (.cells (rpA r n (some ⟨g, off, none⟩) c) 75)).alloc (.cells #[.int .i64 0, .int .i64 0, .int .i64 0, .slice none 0 0, .slice none 0 0, .int .i64 0, .int .i64 0, .slice none 0 0, .int .i64 0, .int .i64 0, .int .i64 0, .int .i64 0, .slice none 0 0, .int .i64 0] 81)).alloc (.cells (rsC k r none 0 0) 81) = W := ⟨_, rfl⟩
  have HWe : Hid (_ = W) := hW
  have HBW : Hid (Below w.heap.size w W) := by show Below _ _ _; rw [← hW]; exact ((((Below.refl _ _).alloc (Nat.le_refl _) _).alloc (by simp) _).alloc (by simp; omega) _).alloc (by simp; omega) _
  have HZ : Hid (W.heap.size = w.heap.size + 4) := by show _ = _; rw [← hW]; simp
  have HX : Hid (W.heap[w.heap.size + 3]? = some (.cells (rsC k r none 0 0) 81 (0, 0))) := by
    show _ = _
    rw [← hW]
    have := al_new (((w.alloc (.cells #[.int .i64 k.org, .int .i64 k.num] 23)).alloc (.cells (rpA r n (some ⟨g, off, none⟩) c) 75)).alloc (.cells #[.int .i64 0, .int .i64 0, .int .i64 0, .slice none 0 0, .slice none 0 0, .int .i64 0, .int .i64 0, .slice none 0 0, .int .i64 0, .int .i64 0, .int .i64 0, .int .i64 0, .slice none 0 0, .int .i64 0] 81)) (.cells (rsC k r none 0 0) 81)
    rw [World.size_alloc, World.size_alloc, World.size_alloc] at this
    exact this
  have HY : Hid (W.heap[w.heap.size + 2]? = some (.cells #[.int .i64 0, .int .i64 0, .int .i64 0, .slice none 0 0, .slice none 0 0, .int .i64 0, .int .i64 0, .slice none 0 0, .int .i64 0, .int .i64 0, .int .i64 0, .int .i64 0, .slice none 0 0, .int .i64 0] 81 (0, 0))) := by
    show _ = _
    rw [← hW]
    have := al_new ((w.alloc (.cells #[.int .i64 k.org, .int .i64 k.num] 23)).alloc (.cells (rpA r n (some ⟨g, off, none⟩) c) 75)) (.cells #[.int .i64 0, .int .i64 0, .int .i64 0, .slice none 0 0, .slice none 0 0, .int .i64 0, .int .i64 0, .slice none 0 0, .int .i64 0, .int .i64 0, .int .i64 0, .int .i64 0, .slice none 0 0, .int .i64 0] 81)
    rw [World.size_alloc, World.size_alloc] at this
    exact al_old this
  have HSr : Hid (∀ k u, (r.clm.flatMap C.spc)[k]? = some u → W.cell? ((⟨g, off, none⟩ : Addr).add k) = some u) := cin_src (hC.below HBW.out)
  have HLen : Hid ((r.clm.flatMap C.spc).length = n * 2) := by show _ = _; rw [C.spc_len, hn]
  have hsm : n ≤ 1048576 := by rw [← hn]; exact hC.small
  have HN : Hid (r.clm.length = n) := hn
  clear hW hC hn
  go_enter Tryd.func86, Tryd.ntmps86
  go_wp2_with (at_builtin; rw [HWe.out]; refine wpList_append_own_at _ rfl _ _ 26 rfl W.heap.size 36 i0 (.agg #[.int .i64 0, .int .i64 0]) 2 16 Tryd.underlying26 hi hz0 hz1 hz2 rfl (by decide) _ _ _ rfl (World.ownsRow_nil _ _ _ _) ⟨g, off, none⟩ n c (r.clm.flatMap C.spc) rfl HLen.out HSr.out (spc_one _) (by unfold maxLen; omega) (by omega) (Nat.le_refl _) ?_; intro v9 w9 o9 g9 _ t9; obtain ⟨e0, e1, e2, e3, e4, e5, e6, e7, e8, e9, e10, e11, e12, e13, f12, d0, d1, d2, d3, d4, d5, d6, d7, d8, d9, d10, d11, d12, d13, z0, z1, z2, z3, z4, z5, z6, z7, z8, z9, z10, z11, z12, z13⟩ := laid_cells (laid_keep HX.out HZ.out g9) (laid_keep2 HY.out HZ.out g9); obtain ⟨a9, c9, rfl⟩ := own_sl5 o9)
  have HSO : Hid (C.SOwn w9 W.heap.size (.slice a9 n c9) r.clm) := by show C.SOwn _ _ _ _; unfold C.SOwn; rw [HN.out]; simpa using o9
  have HG9 : Hid (W.grownBy w9 (Value.slice none 0 0).ownBlock) := g9
  clear o9 g9 t9
  refine bodyPost_ret (v := .agg (rsC k r a9 n c9)) (by simp [results, Tryd.results86, go_sem, d0, d1, d2, d3, d4, d5, d6, d7, d8, d9, d10, d11, d12, d13]) rfl ?_
  obtain ⟨q1, q2⟩ := laid_end HBW.out HZ.out HG9.out HSO.out ((((((((((((((((Kp2.refl w9 _).set _ _ (.inr rfl) _).set _ _ (.inl rfl) _).set _ _ (.inl rfl) _).set _ _ (.inl rfl) _).set _ _ (.inl rfl) _).set _ _ (.inl rfl) _).set _ _ (.inl rfl) _).set _ _ (.inl rfl) _).set _ _ (.inl rfl) _).set _ _ (.inl rfl) _).set _ _ (.inl rfl) _).set _ _ (.inl rfl) _).set _ _ (.inl rfl) _).set _ _ (.inl rfl) _).set _ _ (.inl rfl) _)
  exact ⟨a9, c9, rfl, q1, q2⟩

set_option maxRecDepth 100000 in
set_option maxHeartbeats 8000000 in
/-- The reference's first: the report with the next m claims. -/
theorem rqFirst_any (k : Qu) (lo sr : Int) (l : List (Int × Int)) (g off c m n : Nat) (w : World) (hC : CIn w (.slice (some ⟨g, off, none⟩) n c) l) (hn : l.length = n) (hm : m ≤ n) (hc : n ≤ c) :
    Calls Tryd.prog 73 #[.slice (some ⟨g, off, none⟩) n c, .int .i64 (m : Nat), .int .i64 lo, .int .i64 k.upp, .int .i64 k.chk, .int .i64 sr] w fun e w' => e = .returned (.agg #[.int .i64 sr, .int .i64 k.chk, .int .i64 (upA k.upp l m), .int .i64 lo, .slice (some ⟨g, off, none⟩) m c]) ∧ Below w.heap.size w w' := by
  subst hn
  have hmc : (m : Int) ≤ (c : Int) := by omega
  rcases Nat.lt_or_ge m l.length with h | h
  · obtain ⟨p, hp⟩ := get_one l m h
    obtain ⟨g', off', he, c0, _⟩ := hC.at hp
    cases he
    have hlt : (m : Int) < (l.length : Int) := by omega
    have hgs : g < w.heap.size := World.block_lt_of_cell? w ⟨g, off + m * 2, none⟩ c0
    have hg1 : g ≠ w.heap.size := by omega
    have hU : upA k.upp l m = p.1 := by simp [upA, hp]
    rw [hU]
    clear hC hp hU
    go_enter Tryd.func73, Tryd.ntmps73
    go_wp2
    refine bodyPost_ret (v := .agg #[.int .i64 sr, .int .i64 k.chk, .int .i64 p.1, .int .i64 lo, .slice (some ⟨g, off, none⟩) m c]) (by simp [results, Tryd.results73, go_sem]) rfl ?_
    exact ⟨rfl, ((Below.refl _ _).alloc (Nat.le_refl _) _).alloc (by simp) _⟩
  · obtain rfl : m = l.length := by omega
    have hlt : ¬ (l.length : Int) < (l.length : Int) := by omega
    have hU : upA k.upp l l.length = k.upp := by simp [upA]
    rw [hU]
    clear hC hU
    go_enter Tryd.func73, Tryd.ntmps73
    go_wp2
    refine bodyPost_ret (v := .agg #[.int .i64 sr, .int .i64 k.chk, .int .i64 k.upp, .int .i64 lo, .slice (some ⟨g, off, none⟩) l.length c]) (by simp [results, Tryd.results73, go_sem]) rfl ?_
    exact ⟨rfl, ((Below.refl _ _).alloc (Nat.le_refl _) _).alloc (by simp) _⟩


set_option maxRecDepth 100000 in
set_option maxHeartbeats 4000000 in
theorem rqFits_ok (k : Qu) (ok : k.Ok) (r : Rr) (hr : r.Ok) (a : Option Addr) (n c : Nat) (hn : r.clm.length = n) (w : World) (hC : CIn w (.slice a n c) r.clm) :
    Calls Tryd.prog 72 #[.agg #[.int .i64 k.org, .int .i64 k.num], .int .i64 k.mtu, .agg (rpA r n a c)] w fun e w' => e = .returned (.bool (fitR k.mtu (sg5 k r))) ∧ Below w.heap.size w w' := by
  obtain ⟨W, hW⟩ : ∃ W, (w.alloc (.cells #[.int .i64 k.org, .int .i64 k.num] 23)).alloc (.cells (rpA r n a c) 75) = W := ⟨_, rfl⟩
  have HWe : Hid (_ = W) := hW
  have hbW : Below w.heap.size w W := by rw [← hW]; exact ((Below.refl _ _).alloc (Nat.le_refl _) _).alloc (by simp) _
  have HBW : Hid (Below w.heap.size w W) := hbW
  have hLd := rqLaid_any k r a n c hn (by rw [← hn]; exact hr.some) W (hC.below hbW)
  have HPr : Hid (∀ V a' c', CIn V (.slice a' n c') r.clm → Calls Tryd.prog 44 #[.agg (rsC k r a' n c')] V fun e w' => ∃ b cb, e = .returned (.tuple #[.slice b (ln5 k r) cb, .int .i64 0]) ∧ Below V.heap.size V w') := fun V a' c' h => rqPrint_ok k ok r hr a' n c' hn V h
  have HSm : Hid (r.clm.length ≤ 1048576) := hC.small
  obtain ⟨B, hB⟩ : ∃ b, fitR k.mtu (sg5 k r) = b := ⟨_, rfl⟩
  have HB : Hid (B = decide ((ln5 k r : Int) ≤ k.mtu)) := by
    show _ = _
    rw [← hB, Bool.eq_iff_iff, fit_iff ok hr]
    simp
  rw [hB]
  generalize ln5 k r = N at *
  clear hW hbW hC hr ok hn hB
  go_enter Tryd.func72, Tryd.ntmps72
  go_wp2_with fail
  rw [HWe.out]
  refine hLd.mono ?_
  rintro e w1 ⟨a1, c1, rfl, hs1, hb1⟩
  have hPr := HPr.out w1 a1 c1 (cin_own hs1 HSm.out)
  have HB1 : Hid (Below w.heap.size w w1) := HBW.out.trans (hb1.mono HBW.out.size)
  clear hLd hs1 hb1 HPr
  go_wp2_with fail
  refine hPr.mono ?_
  rintro e w2 ⟨b, cb, rfl, hb2⟩
  have HB2 : Hid (Below w.heap.size w w2) := HB1.out.trans (hb2.mono HB1.out.size)
  clear hPr hb2
  by_cases hle : (N : Int) ≤ k.mtu
  · have HV : Hid (B = true) := HB.out.trans (decide_eq_true hle)
    clear HB
    go_wp2
    go_ret
    exact ⟨congrArg (fun b => Ending.returned (Value.bool b)) HV.out.symm, HB2.out⟩
  · have HV : Hid (decide ((N : Int) ≤ k.mtu) = B) := HB.out.symm
    clear HB
    go_wp2
    go_ret
    exact ⟨congrArg (fun b => Ending.returned (Value.bool b)) HV.out, HB2.out⟩

end Go.Proofs.YthbkabehjeidjaeDoor

namespace Go.Proofs.YthbkabehjeidjaeDoor
open Go.RowKit
set_option linter.unusedVariables false
set_option linter.unusedSimpArgs false

/-- The reference's Make, between two rounds. X: the world behind Within. -/
structure DlR (k : Qu) (l : List (Int × Int)) (lo sr : Int) (X wr : World) (lo' sr' : Int) (ll : List (Int × Int)) (os : List R5o) (a : Option Addr) (c : Nat) (lv : Value) : Prop where
  ci : CIn X (.slice a ll.length c) ll
  cap : ll.length ≤ c
  cc : c ≤ 9223372036854775807
  dl : DlI k l lo sr lo' sr' ll os
  r5 : R5 wr X.heap.size lv os
  bel : Below X.heap.size X wr
theorem DlR.start {k : Qu} {l : List (Int × Int)} {lo sr : Int} {X : World} {a : Option Addr} {c : Nat} (hC : CIn X (.slice a l.length c) l) (hm : l.length ≤ c) (hc : c ≤ 9223372036854775807) (hb : Bg k lo sr l) (hs : sr ≤ 4611686018427387903) : DlR k l lo sr X X lo sr l [] a c (.slice none 0 0) :=
  ⟨hC, hm, hc, DlI.start hb hs, R5.start _ _, Below.refl _ _⟩
theorem DlR.step {k : Qu} (ok : k.Ok) {l : List (Int × Int)} {lo sr lo' sr' : Int} {X wr w6 w7 : World} {ll : List (Int × Int)} {os : List R5o} {a a' a4 : Option Addr} {c c' n c4 : Nat} {lv v7 : Value} (h : DlR k l lo sr X wr lo' sr' ll os a c lv) (hne : ll ≠ []) (hs : sr' ≤ 4611686018427387903)
    (hn : NR (fit5 k lo' sr' ll) (min ll.length 1000) n) (hb : Below wr.heap.size wr w6) (h4 : C.SOwn w6 wr.heap.size (.slice a4 n c4) (ll.take n)) (hg : w6.grownBy w7 lv.ownBlock)
    (hr : w7.ownsRow X.heap.size 75 5 v7 (os.length + 1) (rpC os ++ [.int .i64 sr', .int .i64 k.chk, .int .i64 (upA k.upp ll n), .int .i64 lo', .slice a4 n c4])) (hf : v7.ownBlock = lv.ownBlock ∨ v7.ownBlock = some w6.heap.size)
    (hci : CIn X (.slice a' (ll.drop n).length c') (ll.drop n)) (hcap : (ll.drop n).length ≤ c') (hcc : c' ≤ 9223372036854775807) :
    DlR k l lo sr X w7 (upA k.upp ll n) (sr' + 1) (ll.drop n) (os ++ [⟨rep5 k lo' sr' ll n, a4, c4⟩]) a' c' v7 := by
  obtain ⟨n1, n2, n3⟩ := nm_one ok h.dl.bg hs hne hn
  have hl3 : (ll.take n).length = n := by simp; omega
  have hR7 : R5 w7 X.heap.size v7 (os ++ [⟨rep5 k lo' sr' ll n, a4, c4⟩]) := by
    refine h.r5.push h.bel.size hb ⟨rep5 k lo' sr' ll n, a4, c4⟩ ?_ hg ?_ ?_
    · show C.SOwn w6 wr.heap.size (.slice a4 (ll.take n).length c4) (ll.take n)
      rw [hl3]
      exact h4
    · have : rpc ⟨rep5 k lo' sr' ll n, a4, c4⟩ = [.int .i64 sr', .int .i64 k.chk, .int .i64 (upA k.upp ll n), .int .i64 lo', .slice a4 n c4] := by
        show [_, _, _, _, Value.slice a4 (ll.take n).length c4] = _
        rw [hl3]
        rfl
      rw [this]
      exact hr
    · intro j hj
      rcases hf with q | q
      · left; exact q.symm.trans hj
      · right; rw [q] at hj; cases hj; exact Nat.le_refl _
  have hB6 : Below X.heap.size X w6 := h.bel.trans (hb.mono h.bel.size)
  exact ⟨hci, hcap, hcc, h.dl.step ok hne hs hn a4 c4, hR7, ⟨hg.os.trans hB6.os, hg.tape.trans hB6.tape, hg.output.trans hB6.output, Nat.le_trans hB6.size hg.size, fun g hgl => (hg.block g (Nat.lt_of_lt_of_le hgl hB6.size) (fun e => by have := (h.r5.row.lt g e.symm).1; omega)).trans (hB6.block g hgl)⟩⟩
theorem DlR.fin {k : Qu} {l : List (Int × Int)} {lo sr lo' sr' : Int} {w X wr : World} {os : List R5o} {a la : Option Addr} {c lc : Nat} (h : DlR k l lo sr X wr lo' sr' [] os a c (.slice la os.length lc)) (hX : Below w.heap.size w X) (hl : l.length ≤ 2000) :
    MkP (dlE (dl5 k (l.length + 1) lo sr l)) (dlL (dl5 k (l.length + 1) lo sr l)) w (.returned (.tuple #[.slice la os.length lc, .int .i64 0])) wr := by
  rw [h.dl.done]
  have hc := h.dl.cnt
  refine ⟨la, lc, os, ?_, rfl, ?_, ?_, ?_, hX.trans (h.bel.mono hX.size)⟩
  · show _ = Ending.returned (.tuple #[.slice la (os.map R5o.r).length lc, .int .i64 0])
    rw [List.length_map]
  · show R5 wr w.heap.size (.slice la (os.map R5o.r).length lc) os
    rw [List.length_map]
    exact h.r5.lower hX.size
  · intro r hr
    obtain ⟨o, ho, rfl⟩ := List.mem_map.mp hr
    exact h.dl.few o ho
  · show (os.map R5o.r).length ≤ 2000
    rw [List.length_map]
    omega
theorem DlR.over {k : Qu} {l : List (Int × Int)} {lo sr lo' sr' : Int} {w X wr : World} {ll : List (Int × Int)} {os : List R5o} {a : Option Addr} {c : Nat} {lv : Value} (h : DlR k l lo sr X wr lo' sr' ll os a c lv) (hX : Below w.heap.size w X) (hne : ll ≠ []) (hs : 4611686018427387903 < sr') :
    MkP (dlE (dl5 k (l.length + 1) lo sr l)) (dlL (dl5 k (l.length + 1) lo sr l)) w (.returned (.tuple #[.slice none 0 0, .int .i64 3])) wr := by
  rw [h.dl.big hne hs]
  exact ⟨none, 0, [], rfl, rfl, R5.start _ _, by simp [dlL], by simp [dlL], hX.trans (h.bel.mono hX.size)⟩
theorem rq_cells {w4 w5 : World} {b : Nat} {x0 x1 x2 x3 x4 : Value} (h : w4.heap[b]? = some (.cells #[x0, x1, x2, x3, x4] 75 (0, 0))) (hz : w4.heap.size = b + 1) (hg : w4.grownBy w5 (Value.slice none 0 0).ownBlock) :
    w5.cell? ⟨b, 0, none⟩ = some x0 ∧ w5.cell? ⟨b, 1, none⟩ = some x1 ∧ w5.cell? ⟨b, 2, none⟩ = some x2 ∧ w5.cell? ⟨b, 3, none⟩ = some x3 ∧ w5.cell? ⟨b, 4, none⟩ = some x4 ∧ w5.frozen? ⟨b, 4, none⟩ = false := by
  have h5 := (hg.block b (by omega) (fun e => by cases e)).trans h
  exact ⟨(cell_of_row _ _ _ _ _ _ h5).trans rfl, (cell_of_row _ _ _ _ _ _ h5).trans rfl, (cell_of_row _ _ _ _ _ _ h5).trans rfl, (cell_of_row _ _ _ _ _ _ h5).trans rfl, (cell_of_row _ _ _ _ _ _ h5).trans rfl, frozen_of_row _ _ _ _ _ h5⟩
theorem rq_after {w6 w8 : World} {b B : Nat} {x0 x1 x2 x3 x4 lv : Value} {o : Obj} (h : w6.heap[b]? = some (.cells #[x0, x1, x2, x3, x4] 75 (0, 0))) (hlt : b < w6.heap.size) (hn : ∀ q, lv.ownBlock = some q → q < B ∧ B ≤ b) (hg : (w6.alloc o).grownBy w8 lv.ownBlock) : w8.cell? ⟨b, 2, none⟩ = some x2 ∧ w8.cell? ⟨b, 4, none⟩ = some x4 := by
  have h8 := (hg.block b (by simp; omega) (fun e => by have := hn b e.symm; omega)).trans (al_old h)
  exact ⟨(cell_of_row _ _ _ _ _ _ h8).trans rfl, (cell_of_row _ _ _ _ _ _ h8).trans rfl⟩

set_option maxRecDepth 100000 in
set_option maxHeartbeats 16000000 in
theorem rqMake_any (o n mtu : Int) (v : Value) (l : List (Int × Int)) (lo up ck sr : Int) (w : World) (h : C.Ls w v l) :
    Calls Tryd.prog 24 #[.agg #[.int .i64 o, .int .i64 n], .int .i64 mtu, v, .int .i64 lo, .int .i64 up, .int .i64 ck, .int .i64 sr] w (MkP (mk5 o n mtu l lo up ck sr).1 (mk5 o n mtu l lo up ck sr).2 w) := by
  obtain ⟨a, c, rfl, hsp, hlc, hcc⟩ := h.shape
  obtain ⟨W, hW⟩ : ∃ W, w.alloc (.cells #[.int .i64 o, .int .i64 n] 23) = W := ⟨_, rfl⟩
  have HWe : Hid (w.alloc (.cells #[.int .i64 o, .int .i64 n] 23) = W) := hW
  have hbW : Below w.heap.size w W := by rw [← hW]; exact (Below.refl _ _).alloc (Nat.le_refl _) _
  have HBW : Hid (Below w.heap.size w W) := hbW
  have HRW : Hid (W.heap[w.heap.size]? = some (.cells #[.int .i64 o, .int .i64 n] 23 (0, 0))) := by show _ = _; rw [← hW]; exact al_new _ _
  have hS := rqSession_any o n W
  have HRi : Hid (∀ V, Below w.heap.size w V → Calls Tryd.prog 70 #[.slice a l.length c] V fun e w' => e = .returned (.bool (C.setB l)) ∧ Below V.heap.size V w') := fun V hV => C.refright_ls (h.below hV)
  have hU := fun V => rqScope_any lo up V
  have HWi : Hid (∀ V, Below w.heap.size w V → Calls Tryd.prog 43 #[.slice a l.length c, .agg #[.int .i64 lo, .int .i64 up]] V (C.GRPost true l (lo, up) V)) := fun V hV => C.refwithin_any lo up (h.below hV)
  obtain ⟨B1, h1⟩ : ∃ b, decide ((1 ≤ o ∧ o ≤ 4611686018427387903) ∧ (1 ≤ n ∧ n ≤ 4611686018427387902)) = b := ⟨_, rfl⟩
  obtain ⟨B2, h2⟩ : ∃ b, decide (80 ≤ mtu ∧ mtu ≤ 4096) = b := ⟨_, rfl⟩
  obtain ⟨B3, h3⟩ : ∃ b, C.setB l = b := ⟨_, rfl⟩
  obtain ⟨B4, h4⟩ : ∃ b, decide (0 ≤ lo ∧ lo < up ∧ up ≤ 65536) = b := ⟨_, rfl⟩
  obtain ⟨B5, h5⟩ : ∃ b, decide (0 ≤ ck ∧ ck ≤ 4611686018427387903) = b := ⟨_, rfl⟩
  obtain ⟨B6, h6⟩ : ∃ b, decide (1 ≤ sr ∧ sr ≤ 4611686018427387903) = b := ⟨_, rfl⟩
  rw [h1] at hS
  rw [h3] at HRi
  rw [h4] at hU
  obtain ⟨er, her⟩ : ∃ er, (mk5 o n mtu l lo up ck sr).1 = er := ⟨_, rfl⟩
  obtain ⟨rs, hrs⟩ : ∃ rs, (mk5 o n mtu l lo up ck sr).2 = rs := ⟨_, rfl⟩
  have HM5 : Hid (mk5 o n mtu l lo up ck sr = (er, rs)) := by show _ = _; rw [← her, ← hrs]
  have HIS : Hid (inS o n mtu = (B1 && B2)) := by
    show _ = _
    rw [← h1, ← h2, Bool.eq_iff_iff]
    simp only [inS, decide_eq_true_eq, Bool.and_eq_true]
  have HIU : Hid (inU lo up = B4) := h4
  have HIK : Hid (inK ck sr = (B5 && B6)) := by
    show _ = _
    rw [← h5, ← h6, Bool.eq_iff_iff]
    simp only [inK, decide_eq_true_eq, Bool.and_eq_true]
  have HH : Hid ((1 ≤ o ∧ o ≤ 4611686018427387903) ∧ (1 ≤ n ∧ n ≤ 4611686018427387902) ↔ B1 = true) := by show _ ↔ _; rw [← h1]; simp
  have HH2 : Hid ((80 ≤ mtu ∧ mtu ≤ 4096) ↔ B2 = true) := by show _ ↔ _; rw [← h2]; simp
  have HH3 : Hid (C.setB l = B3) := h3
  have HH4 : Hid ((0 ≤ lo ∧ lo < up ∧ up ≤ 65536) ↔ B4 = true) := by show _ ↔ _; rw [← h4]; simp
  have HH5 : Hid ((0 ≤ ck ∧ ck ≤ 4611686018427387903) ↔ B5 = true) := by show _ ↔ _; rw [← h5]; simp
  have HH6 : Hid ((1 ≤ sr ∧ sr ≤ 4611686018427387903) ↔ B6 = true) := by show _ ↔ _; rw [← h6]; simp
  rw [her, hrs]
  clear hW hbW h1 h2 h3 h4 h5 h6 her hrs h hsp hlc hcc
  go_enter Tryd.func24, Tryd.ntmps24
  go_wp2_with fail
  rw [HWe.out]
  refine hS.mono ?_
  rintro e w1 ⟨rfl, hb1⟩
  have HB1 : Hid (Below W.heap.size W w1) := hb1
  clear hb1 hS
  cases B1 with
  | false =>
    have HF : Hid (MkP er rs w (.returned (.tuple #[.slice none 0 0, .int .i64 1])) w1) := by
      have e1 : mk5 o n mtu l lo up ck sr = (1, []) := by unfold mk5; rw [if_pos (show inS o n mtu = false from HIS.out)]
      rw [HM5.out, Prod.mk.injEq] at e1
      show MkP _ _ _ _ _
      rw [e1.1, e1.2]
      exact mkp_nil _ _ (HBW.out.trans (HB1.out.mono HBW.out.size))
    clear HM5 HIS HIU HIK HH HH2 HH3 HH4 HH5 HH6 HWi HRi hU
    go_wp2
    go_ret2
    exact HF.out
  | true =>
  by_cases hm1 : mtu < 80
  · obtain rfl : B2 = false := by
      cases hB : B2 with
      | false => rfl
      | true => have := HH2.out.mpr hB; omega
    have HF : Hid (MkP er rs w (.returned (.tuple #[.slice none 0 0, .int .i64 1])) w1) := by
      have e1 : mk5 o n mtu l lo up ck sr = (1, []) := by unfold mk5; rw [if_pos (show inS o n mtu = false from HIS.out)]
      rw [HM5.out, Prod.mk.injEq] at e1
      show MkP _ _ _ _ _
      rw [e1.1, e1.2]
      exact mkp_nil _ _ (HBW.out.trans (HB1.out.mono HBW.out.size))
    clear HM5 HIS HIU HIK HH HH2 HH3 HH4 HH5 HH6 HWi HRi hU
    go_wp2
    go_ret2
    exact HF.out
  by_cases hm2 : 4096 < mtu
  · obtain rfl : B2 = false := by
      cases hB : B2 with
      | false => rfl
      | true => have := HH2.out.mpr hB; omega
    have HF : Hid (MkP er rs w (.returned (.tuple #[.slice none 0 0, .int .i64 1])) w1) := by
      have e1 : mk5 o n mtu l lo up ck sr = (1, []) := by unfold mk5; rw [if_pos (show inS o n mtu = false from HIS.out)]
      rw [HM5.out, Prod.mk.injEq] at e1
      show MkP _ _ _ _ _
      rw [e1.1, e1.2]
      exact mkp_nil _ _ (HBW.out.trans (HB1.out.mono HBW.out.size))
    clear HM5 HIS HIU HIK HH HH2 HH3 HH4 HH5 HH6 HWi HRi hU
    go_wp2
    go_ret2
    exact HF.out
  obtain rfl : B2 = true := HH2.out.mp ⟨by omega, by omega⟩
  have hRi := HRi.out w1 (HBW.out.trans (HB1.out.mono HBW.out.size))
  clear HRi
  go_wp2_with fail
  refine hRi.mono ?_
  rintro e w2 ⟨rfl, hb2⟩
  have HB2 : Hid (Below W.heap.size W w2) := HB1.out.trans (hb2.mono HB1.out.size)
  clear hRi hb2 HB1
  cases B3 with
  | false =>
    have HF : Hid (MkP er rs w (.returned (.tuple #[.slice none 0 0, .int .i64 30])) w2) := by
      have e1 : mk5 o n mtu l lo up ck sr = (30, []) := by unfold mk5; rw [if_neg (by rw [HIS.out]; decide), if_pos HH3.out]
      rw [HM5.out, Prod.mk.injEq] at e1
      show MkP _ _ _ _ _
      rw [e1.1, e1.2]
      exact mkp_nil _ _ (HBW.out.trans (HB2.out.mono HBW.out.size))
    clear HM5 HIS HIU HIK HH HH2 HH3 HH4 HH5 HH6 HWi hU
    go_wp2
    go_ret2
    exact HF.out
  | true =>
  go_wp2_with fail
  refine (hU _).mono ?_
  rintro e w1' ⟨rfl, hw1⟩
  subst hw1
  clear hU
  cases B4 with
  | false =>
    have HF : Hid (MkP er rs w (.returned (.tuple #[.slice none 0 0, .int .i64 50])) w2) := by
      have e1 : mk5 o n mtu l lo up ck sr = (50, []) := by unfold mk5; rw [if_neg (by rw [HIS.out]; decide), if_neg (by rw [HH3.out]; decide), if_pos HIU.out]
      rw [HM5.out, Prod.mk.injEq] at e1
      show MkP _ _ _ _ _
      rw [e1.1, e1.2]
      exact mkp_nil _ _ (HBW.out.trans (HB2.out.mono HBW.out.size))
    clear HM5 HIS HIU HIK HH HH2 HH3 HH4 HH5 HH6 HWi
    go_wp2
    go_ret2
    exact HF.out
  | true =>
  by_cases hk1 : ck < 0
  · obtain rfl : B5 = false := by
      cases hB : B5 with
      | false => rfl
      | true => have := HH5.out.mpr hB; omega
    have HF : Hid (MkP er rs w (.returned (.tuple #[.slice none 0 0, .int .i64 1])) w2) := by
      have e1 : mk5 o n mtu l lo up ck sr = (1, []) := by unfold mk5; rw [if_neg (by rw [HIS.out]; decide), if_neg (by rw [HH3.out]; decide), if_neg (by rw [HIU.out]; decide), if_pos (show inK ck sr = false from by rw [HIK.out]; simp)]
      rw [HM5.out, Prod.mk.injEq] at e1
      show MkP _ _ _ _ _
      rw [e1.1, e1.2]
      exact mkp_nil _ _ (HBW.out.trans (HB2.out.mono HBW.out.size))
    clear HM5 HIS HIU HIK HH HH2 HH3 HH4 HH5 HH6 HWi
    go_wp2
    go_ret2
    exact HF.out
  by_cases hk2 : 4611686018427387903 < ck
  · obtain rfl : B5 = false := by
      cases hB : B5 with
      | false => rfl
      | true => have := HH5.out.mpr hB; omega
    have HF : Hid (MkP er rs w (.returned (.tuple #[.slice none 0 0, .int .i64 1])) w2) := by
      have e1 : mk5 o n mtu l lo up ck sr = (1, []) := by unfold mk5; rw [if_neg (by rw [HIS.out]; decide), if_neg (by rw [HH3.out]; decide), if_neg (by rw [HIU.out]; decide), if_pos (show inK ck sr = false from by rw [HIK.out]; simp)]
      rw [HM5.out, Prod.mk.injEq] at e1
      show MkP _ _ _ _ _
      rw [e1.1, e1.2]
      exact mkp_nil _ _ (HBW.out.trans (HB2.out.mono HBW.out.size))
    clear HM5 HIS HIU HIK HH HH2 HH3 HH4 HH5 HH6 HWi
    go_wp2
    go_ret2
    exact HF.out
  by_cases hk3 : sr < 1
  · obtain rfl : B6 = false := by
      cases hB : B6 with
      | false => rfl
      | true => have := HH6.out.mpr hB; omega
    have HF : Hid (MkP er rs w (.returned (.tuple #[.slice none 0 0, .int .i64 1])) w2) := by
      have e1 : mk5 o n mtu l lo up ck sr = (1, []) := by unfold mk5; rw [if_neg (by rw [HIS.out]; decide), if_neg (by rw [HH3.out]; decide), if_neg (by rw [HIU.out]; decide), if_pos (show inK ck sr = false from by rw [HIK.out]; simp)]
      rw [HM5.out, Prod.mk.injEq] at e1
      show MkP _ _ _ _ _
      rw [e1.1, e1.2]
      exact mkp_nil _ _ (HBW.out.trans (HB2.out.mono HBW.out.size))
    clear HM5 HIS HIU HIK HH HH2 HH3 HH4 HH5 HH6 HWi
    go_wp2
    go_ret2
    exact HF.out
  by_cases hk4 : 4611686018427387903 < sr
  · obtain rfl : B6 = false := by
      cases hB : B6 with
      | false => rfl
      | true => have := HH6.out.mpr hB; omega
    have HF : Hid (MkP er rs w (.returned (.tuple #[.slice none 0 0, .int .i64 1])) w2) := by
      have e1 : mk5 o n mtu l lo up ck sr = (1, []) := by unfold mk5; rw [if_neg (by rw [HIS.out]; decide), if_neg (by rw [HH3.out]; decide), if_neg (by rw [HIU.out]; decide), if_pos (show inK ck sr = false from by rw [HIK.out]; simp)]
      rw [HM5.out, Prod.mk.injEq] at e1
      show MkP _ _ _ _ _
      rw [e1.1, e1.2]
      exact mkp_nil _ _ (HBW.out.trans (HB2.out.mono HBW.out.size))
    clear HM5 HIS HIU HIK HH HH2 HH3 HH4 HH5 HH6 HWi
    go_wp2
    go_ret2
    exact HF.out
  obtain rfl : B5 = true := HH5.out.mp ⟨by omega, by omega⟩
  obtain rfl : B6 = true := HH6.out.mp ⟨by omega, by omega⟩
  have hWi := HWi.out w2 (HBW.out.trans (HB2.out.mono HBW.out.size))
  clear HWi
  go_wp2_with fail
  refine hWi.mono ?_
  rintro e w3 ⟨v3, u, e3, rfl, hs3, hg3, hb3⟩
  have hset : C.IsSet l := C.setB_iff.mp HH3.out
  have q1 : (1 ≤ o ∧ o ≤ 4611686018427387903) ∧ (1 ≤ n ∧ n ≤ 4611686018427387902) := HH.out.mpr (by trivial)
  have q2 : 80 ≤ mtu ∧ mtu ≤ 4096 := HH2.out.mpr (by trivial)
  have q4 : 0 ≤ lo ∧ lo < up ∧ up ≤ 65536 := HH4.out.mpr (by trivial)
  have q5 : 0 ≤ ck ∧ ck ≤ 4611686018427387903 := HH5.out.mpr (by trivial)
  have q6 : 1 ≤ sr ∧ sr ≤ 4611686018427387903 := HH6.out.mpr (by trivial)
  have hln : (C.wth l (lo, up)).length ≤ 2000 := by
    have hz := (hg3.within hset ⟨q4.1, by show lo ≤ up; omega, by show up ≤ _; omega⟩).1
    rcases hg3 with ⟨q, _⟩ | ⟨_, _, ⟨q, _, _⟩ | ⟨q, q7, _⟩⟩
    · exact absurd ⟨hset, q4.1, by show lo ≤ up; omega, by show up ≤ _; omega⟩ q
    · exact q
    · omega
  obtain ⟨rfl, rfl⟩ := hg3.within hset ⟨q4.1, by show lo ≤ up; omega, by show up ≤ _; omega⟩
  have HB3 : Hid (Below W.heap.size W w3) := HB2.out.trans (hb3.mono HB2.out.size)
  obtain ⟨a3, c3, hv3⟩ := hs3.shape
  subst hv3
  have hws : W.heap.size = w.heap.size + 1 := by rw [← HWe.out, World.size_alloc]
  have hr3 : w3.heap[w.heap.size]? = some (.cells #[.int .i64 o, .int .i64 n] 23 (0, 0)) := (HB3.out.block _ (by omega)).trans HRW.out
  have s0 : w3.cell? ⟨w.heap.size, 0, none⟩ = some (.int .i64 o) := (cell_of_row _ _ _ _ _ _ hr3).trans rfl
  have s1 : w3.cell? ⟨w.heap.size, 1, none⟩ = some (.int .i64 n) := (cell_of_row _ _ _ _ _ _ hr3).trans rfl
  have hls := (hs3.ls (by omega)).shape
  obtain ⟨a4, c4, hv4, _, hc4, hc5⟩ := hls
  simp only [Value.slice.injEq] at hv4
  obtain ⟨rfl, _, rfl⟩ := hv4
  have HD0 : Hid (DlR ⟨o, n, mtu, ck, up⟩ (C.wth l (lo, up)) lo sr w3 w3 lo sr (C.wth l (lo, up)) [] a3 c3 (.slice none 0 0)) := DlR.start (cin_own hs3 (by omega)) hc4 hc5 ⟨q4.1, q6.1, wth_ok hset q4.1 q4.2.2⟩ q6.2
  have HOK : Hid (Qu.Ok ⟨o, n, mtu, ck, up⟩) := ⟨q1.1, q1.2, q2, q5, q4.2.2⟩
  have HM6 : Hid (er = dlE (dl5 ⟨o, n, mtu, ck, up⟩ ((C.wth l (lo, up)).length + 1) lo sr (C.wth l (lo, up))) ∧ rs = dlL (dl5 ⟨o, n, mtu, ck, up⟩ ((C.wth l (lo, up)).length + 1) lo sr (C.wth l (lo, up)))) := by
    have e1 := HM5.out
    unfold mk5 at e1
    rw [if_neg (by rw [HIS.out]; decide), if_neg (by rw [HH3.out]; decide), if_neg (by rw [HIU.out]; decide), if_neg (by rw [HIK.out]; decide), Prod.mk.injEq] at e1
    exact ⟨e1.1.symm, e1.2.symm⟩
  have HBX : Hid (Below w.heap.size w w3) := HBW.out.trans (HB3.out.mono HBW.out.size)
  have HRX : Hid (w3.heap[w.heap.size]? = some (.cells #[.int .i64 o, .int .i64 n] 23 (0, 0))) := hr3
  obtain ⟨L, hL⟩ : ∃ L, C.wth l (lo, up) = L := ⟨_, rfl⟩
  rw [hL] at HD0 HM6 hln ⊢
  obtain ⟨N, hN⟩ : ∃ N, L.length = N := ⟨_, rfl⟩
  have HNL : Hid (L.length = N) := hN
  rw [hN] at hln ⊢
  obtain ⟨i0, hi0, hz0, hy0, hb0⟩ := info_parts Tryd.info_report
  obtain ⟨j0, hi1, hz1, hy1, hb1⟩ := info_parts C.Tryd.info_span
  clear hWi hb3 HB2 HB3 hws hr3 HM5 HIS HIU HIK HH HH2 HH3 HH4 HH5 HH6 hg3 hset q1 q2 q4 q5 q6 hc4 hc5 hs3 hL hN s0 s1 hm1 hm2 hk1 hk2 hk3 hk4
  go_wp2_with fail
  go_loopg [3, 6, 19, 21] N (fun kx s3 s6 s19 s21 wr => ∃ (lo' sr' : Int) (ll : List (Int × Int)) (os : List R5o) (a' : Option Addr) (n' c' : Nat), s3 = .int .i64 lo' ∧ s6 = .int .i64 sr' ∧ s19 = .slice a' n' c' ∧ n' ≤ kx ∧ Hid (ll.length = n' ∧ DlR ⟨o, n, mtu, ck, up⟩ L lo sr w3 wr lo' sr' ll os a' c' s21))
  case atStart => exact ⟨lo, sr, L, [], a3, N, c3, rfl, rfl, rfl, Nat.le_refl _, hid_and HNL HD0⟩
  case round =>
    obtain ⟨lo', sr', ll, os, a', n', c', rfl, rfl, rfl, hk, HD⟩ := hrel
    obtain ⟨la, lc, hlv⟩ := own_sl5 HD.out.2.r5.row
    subst hlv
    by_cases hn0 : n' = 0
    · subst hn0
      have HF : Hid (MkP er rs w (.returned (.tuple #[.slice la os.length lc, .int .i64 0])) wr) := by
        obtain ⟨e, hD⟩ := HD.out
        have e2 : ll = [] := List.eq_nil_of_length_eq_zero e
        subst e2
        show MkP _ _ _ _ _
        rw [HM6.out.1, HM6.out.2]
        exact hD.fin HBX.out (by rw [HNL.out]; exact hln)
      clear HD HD0 HM6
      go_wp2
      first | exact HF.out | (go_ret2; exact HF.out)
    · have hp0 : 0 < n' := by omega
      have hne : ll ≠ [] := fun e => by have := HD.out.1; rw [e] at this; simp at this; omega
      have HNE : Hid (ll ≠ []) := hne
      have HL : Hid (ll.length = n') := HD.out.1
      have HDW : Hid (DlR ⟨o, n, mtu, ck, up⟩ L lo sr w3 wr lo' sr' ll os a' c' (.slice la os.length lc)) := HD.out.2
      clear HD hne hn0
      by_cases hbig : 4611686018427387903 < sr'
      · have HF : Hid (MkP er rs w (.returned (.tuple #[.slice none 0 0, .int .i64 3])) wr) := by
          show MkP _ _ _ _ _
          rw [HM6.out.1, HM6.out.2]
          exact HDW.out.over HBX.out HNE.out hbig
        clear HDW HD0 HM6
        go_wp2
        first | exact HF.out | (go_ret2; exact HF.out)
      · have hle : sr' ≤ 4611686018427387903 := by omega
        have hsr1 : 1 ≤ sr' := HDW.out.dl.bg.ser
        obtain ⟨g, off, rfl⟩ : ∃ g off, a' = some ⟨g, off, none⟩ := by
          obtain ⟨a2, c2, hv, hs⟩ := HDW.out.ci.shape
          simp only [Value.slice.injEq] at hv
          obtain ⟨rfl, _, _⟩ := hv
          rcases hs with q | ⟨g, off, q, _⟩
          · exact absurd q HNE.out
          · exact ⟨g, off, q⟩
        have hnc : n' ≤ c' := by have := HDW.out.cap; have := HL.out; omega
        have hcc : c' ≤ 9223372036854775807 := HDW.out.cc
        have hn2 : n' ≤ 2000 := by have h1 := HDW.out.dl.cnt; have h2 := HL.out; have h3 := HNL.out; omega
        have HSs : Hid (∀ V, Below wr.heap.size wr V → V.cell? ⟨w.heap.size, 0, none⟩ = some (.int .i64 o) ∧ V.cell? ⟨w.heap.size, 1, none⟩ = some (.int .i64 n)) := fun V hV => by
          have hlt := (Array.getElem?_eq_some_iff.1 HRX.out).1
          have h1 := (hV.block w.heap.size (Nat.lt_of_lt_of_le hlt HDW.out.bel.size)).trans ((HDW.out.bel.block w.heap.size hlt).trans HRX.out)
          exact ⟨(cell_of_row _ _ _ _ _ _ h1).trans rfl, (cell_of_row _ _ _ _ _ _ h1).trans rfl⟩
        have HF1 : Hid (∀ V (j : Nat), Below wr.heap.size wr V → j ≤ n' → Calls Tryd.prog 73 #[.slice (some ⟨g, off, none⟩) n' c', .int .i64 (j : Nat), .int .i64 lo', .int .i64 up, .int .i64 ck, .int .i64 sr'] V fun e w' => e = .returned (.agg #[.int .i64 sr', .int .i64 ck, .int .i64 (upA up ll j), .int .i64 lo', .slice (some ⟨g, off, none⟩) j c']) ∧ Below V.heap.size V w') := fun V j hV hj => rqFirst_any ⟨o, n, mtu, ck, up⟩ lo' sr' ll g off c' j n' V (by have h := HDW.out.ci.below (HDW.out.bel.trans (hV.mono HDW.out.bel.size)); rw [HL.out] at h; exact h) HL.out hj hnc
        have HF2 : Hid (∀ V (j : Nat), Below wr.heap.size wr V → 1 ≤ j → j ≤ n' → j ≤ 1000 → Calls Tryd.prog 72 #[.agg #[.int .i64 o, .int .i64 n], .int .i64 mtu, .agg #[.int .i64 sr', .int .i64 ck, .int .i64 (upA up ll j), .int .i64 lo', .slice (some ⟨g, off, none⟩) j c']] V fun e w' => e = .returned (.bool (fit5 ⟨o, n, mtu, ck, up⟩ lo' sr' ll j)) ∧ Below V.heap.size V w') := fun V j hV h1 h2 h3 =>
          rqFits_ok ⟨o, n, mtu, ck, up⟩ HOK.out (rep5 ⟨o, n, mtu, ck, up⟩ lo' sr' ll j) (rep_ok HOK.out HDW.out.dl.bg hle h1 (by rw [HL.out]; exact h2) h3) (some ⟨g, off, none⟩) j c' (by show (ll.take j).length = j; have := HL.out; simp; omega) V (cin_take (by have h := HDW.out.ci.below (HDW.out.bel.trans (hV.mono HDW.out.bel.size)); exact h) (by rw [HL.out]; exact h2))
        have HF0 : Hid (fit5 ⟨o, n, mtu, ck, up⟩ lo' sr' ll 1 = true) := fit_one HOK.out HDW.out.dl.bg hle HNE.out
        have HF01 : Hid (∀ i, i < 1 → fit5 ⟨o, n, mtu, ck, up⟩ lo' sr' ll (i + 1) = true) := fun i hi => by
          obtain rfl : i = 0 := by omega
          exact HF0.out
        obtain ⟨wa, hwa⟩ : ∃ x, x = wr := ⟨_, rfl⟩
        subst hwa
        go_upto_block 2 with fail
        go_cut [22, 23] from 74 to 96 (fun q q2 wx => ∃ K : Nat, q = .int .i64 K ∧ Hid (NR (fit5 ⟨o, n, mtu, ck, up⟩ lo' sr' ll) (min n' 1000) K ∧ Below wa.heap.size wa wx))
        case first =>
          go_wp2_with fail
          go_loopg [22] 1000 (fun kx s22 wx => ∃ j : Nat, s22 = .int .i64 j ∧ 1 ≤ j ∧ j ≤ n' ∧ j ≤ 1000 ∧ 1000 - j ≤ kx ∧ Hid ((∀ i, i < j → fit5 ⟨o, n, mtu, ck, up⟩ lo' sr' ll (i + 1) = true) ∧ Below wa.heap.size wa wx))
          case atStart => exact ⟨1, rfl, Nat.le_refl _, hp0, by omega, by omega, hid_and HF01 (Below.refl _ _)⟩
          case round =>
            obtain ⟨j, rfl, h1, h2, h3, h4, HJ⟩ := hrel
            by_cases ha : j < n'
            · have ha' : (j : Int) < (n' : Int) := by omega
              by_cases hb : j < 1000
              · have hb' : (j : Int) < 1000 := by omega
                obtain ⟨s0, s1⟩ := HSs.out wr HJ.out.2
                have hwj : IntKind.i64.wrap ((j : Int) + 1) = (j : Int) + 1 := by rw [IntKind.wrap_i64]; omega
                have HG1 : Hid (∀ V, Below wa.heap.size wa V → Calls Tryd.prog 73 #[.slice (some ⟨g, off, none⟩) n' c', .int .i64 ((j : Int) + 1), .int .i64 lo', .int .i64 up, .int .i64 ck, .int .i64 sr'] V fun e w' => e = .returned (.agg #[.int .i64 sr', .int .i64 ck, .int .i64 (upA up ll (j + 1)), .int .i64 lo', .slice (some ⟨g, off, none⟩) (j + 1) c']) ∧ Below V.heap.size V w') := fun V hV => HF1.out V (j + 1) hV (by omega)
                have HG2 := fun V hV => HF2.out V (j + 1) hV (by omega) (by omega) (by omega)
                have HG2 : Hid (∀ V, Below wa.heap.size wa V → Calls Tryd.prog 72 #[.agg #[.int .i64 o, .int .i64 n], .int .i64 mtu, .agg #[.int .i64 sr', .int .i64 ck, .int .i64 (upA up ll (j + 1)), .int .i64 lo', .slice (some ⟨g, off, none⟩) (j + 1) c']] V fun e w' => e = .returned (.bool (fit5 ⟨o, n, mtu, ck, up⟩ lo' sr' ll (j + 1))) ∧ Below V.heap.size V w') := HG2
                obtain ⟨U, hU⟩ : ∃ U, upA up ll (j + 1) = U := ⟨_, rfl⟩
                obtain ⟨B, hB⟩ : ∃ B, fit5 ⟨o, n, mtu, ck, up⟩ lo' sr' ll (j + 1) = B := ⟨_, rfl⟩
                have HBB : Hid (fit5 ⟨o, n, mtu, ck, up⟩ lo' sr' ll (j + 1) = B) := hB
                rw [hU] at HG1 HG2
                rw [hB] at HG2
                clear hU hB
                have HBw : Hid (Below wa.heap.size wa wr) := HJ.out.2
                go_wp2_with fail
                go_region_held3 (fun V => V.cell? ⟨w.heap.size, 0, none⟩ = some (.int .i64 o) ∧ V.cell? ⟨w.heap.size, 1, none⟩ = some (.int .i64 n) ∧ Below wa.heap.size wa V)
                  (first | (exact ⟨y0, y1, hV3⟩) | (exact ⟨d0, d1, hV2⟩) | (exact ⟨s0, s1, HBw.out⟩) | (exact ⟨s0, s1, HBw.out.drew⟩))
                  (first
                    | (go_at_call 73
                       refine (HG1.out _ HBw.out.drew).mono ?_
                       rintro e x2 ⟨rfl, hb2⟩
                       have hV2 : Below wa.heap.size wa x2 := HBw.out.drew.trans (hb2.mono HBw.out.drew.size)
                       obtain ⟨d0, d1⟩ := HSs.out x2 hV2
                       clear hb2)
                    | (go_at_call 72
                       refine (HG2.out _ hV2).mono ?_
                       rintro e x3 ⟨rfl, hb3⟩
                       have hV3 : Below wa.heap.size wa x3 := hV2.trans (hb3.mono hV2.size)
                       obtain ⟨y0, y1⟩ := HSs.out x3 hV3
                       clear hb3))
                all_goals (
                  have HBx : Hid (Below wa.heap.size wa x3) := hV3
                  clear s0 s1 d0 d1 y0 y1 hV2 hV3 HG1 HG2)
                cases B with
                | false =>
                  have HNR : Hid (NR (fit5 ⟨o, n, mtu, ck, up⟩ lo' sr' ll) (min n' 1000) j) := ⟨by omega, HJ.out.1, fun _ => HBB.out⟩
                  clear HBB HJ
                  go_wp2_with fail
                  go_meet
                  exact ⟨j, rfl, hid_and HNR HBx⟩
                | true =>
                  have HJ2 : Hid (∀ i, i < j + 1 → fit5 ⟨o, n, mtu, ck, up⟩ lo' sr' ll (i + 1) = true) := fun i hi => by
                    by_cases e : i < j
                    · exact HJ.out.1 i e
                    · obtain rfl : i = j := by omega
                      exact HBB.out
                  clear HBB HJ
                  go_wp2
                  go_roundg (1000 - (j + 1))
                  case measure => omega
                  case rel => exact ⟨j + 1, by go_num, by omega, by omega, by omega, by omega, hid_and HJ2 HBx⟩
              · have hb' : ¬ (j : Int) < 1000 := by omega
                have HNR : Hid (NR (fit5 ⟨o, n, mtu, ck, up⟩ lo' sr' ll) (min n' 1000) j) := ⟨by omega, HJ.out.1, fun hq => by omega⟩
                have HBx : Hid (Below wa.heap.size wa wr) := HJ.out.2
                go_wp2_with fail
                go_meet
                exact ⟨j, rfl, hid_and HNR HBx⟩
            · have ha' : ¬ (j : Int) < (n' : Int) := by omega
              have HNR : Hid (NR (fit5 ⟨o, n, mtu, ck, up⟩ lo' sr' ll) (min n' 1000) j) := ⟨by omega, HJ.out.1, fun hq => by omega⟩
              have HBx : Hid (Below wa.heap.size wa wr) := HJ.out.2
              go_wp2_with fail
              go_meet
              exact ⟨j, rfl, hid_and HNR HBx⟩
        case rest =>
          obtain ⟨K, rfl, HCut⟩ := hcut
          have hno := nm_one HOK.out HDW.out.dl.bg hle HNE.out (by rw [HL.out]; exact HCut.out.1)
          rw [HL.out] at hno
          have HNR : Hid (NR (fit5 ⟨o, n, mtu, ck, up⟩ lo' sr' ll) (min ll.length 1000) K) := by rw [HL.out]; exact HCut.out.1
          have HBc : Hid (Below wa.heap.size wa wc) := HCut.out.2
          have hF := HF1.out wc K HBc.out hno.2.1
          obtain ⟨U, hU⟩ : ∃ U, upA up ll K = U := ⟨_, rfl⟩
          have HU : Hid (upA up ll K = U) := hU
          rw [hU] at hF
          have HTk : Hid ((ll.take K).length = K) := by show _ = _; rw [List.length_take, HL.out]; omega
          clear HCut hU HF2 HF0 HF01 HF1 HSs
          go_wp2_with fail
          refine hF.mono ?_
          rintro e x2 ⟨rfl, hb2⟩
          have HB2 : Hid (Below wa.heap.size wa x2) := HBc.out.trans (hb2.mono HBc.out.size)
          obtain ⟨w4, hw4⟩ : ∃ w4, x2.alloc (.cells #[.int .i64 sr', .int .i64 ck, .int .i64 U, .int .i64 lo', .slice (some ⟨g, off, none⟩) K c'] 75) = w4 := ⟨_, rfl⟩
          have HW4 : Hid (x2.alloc (.cells #[.int .i64 sr', .int .i64 ck, .int .i64 U, .int .i64 lo', .slice (some ⟨g, off, none⟩) K c'] 75) = w4) := hw4
          have hr4 : w4.heap[x2.heap.size]? = some (.cells #[.int .i64 sr', .int .i64 ck, .int .i64 U, .int .i64 lo', .slice (some ⟨g, off, none⟩) K c'] 75 (0, 0)) := by rw [← hw4]; exact al_new _ _
          have HB4 : Hid (Below wa.heap.size wa w4 ∧ w4.heap.size = x2.heap.size + 1 ∧ Below x2.heap.size x2 w4) := by rw [← hw4]; exact ⟨HB2.out.alloc HB2.out.size _, by simp, (Below.refl _ _).alloc (Nat.le_refl _) _⟩
          have HR4 : Hid (w4.heap[x2.heap.size]? = some (.cells #[.int .i64 sr', .int .i64 ck, .int .i64 U, .int .i64 lo', .slice (some ⟨g, off, none⟩) K c'] 75 (0, 0))) := hr4
          have HSr : Hid (∀ q u, ((ll.take K).flatMap C.spc)[q]? = some u → w4.cell? ((⟨g, off, none⟩ : Addr).add q) = some u) := cin_src (n := K) (c := c') (cin_take (HDW.out.ci.below (HDW.out.bel.trans (HB4.out.1.mono HDW.out.bel.size))) (by rw [HL.out]; exact hno.2.1))
          have HLen : Hid (((ll.take K).flatMap C.spc).length = K * 2) := by show _ = _; rw [C.spc_len, HTk.out]
          have x4 : w4.cell? ⟨x2.heap.size, 4, none⟩ = some (.slice (some ⟨g, off, none⟩) K c') := (cell_of_row _ _ _ _ _ _ hr4).trans rfl
          have hol : os.length ≤ 2000 := by have := HDW.out.dl.cnt; have := HNL.out; omega
          clear hF hb2 hw4 hr4 HBc
          go_upto_region 24 with fail
          rw [HW4.out]
          go_upto_region 26 with (at_builtin; refine wpList_append_own_at _ rfl _ _ 26 rfl w4.heap.size 36 j0 (.agg #[.int .i64 0, .int .i64 0]) 2 16 Tryd.underlying26 hi1 hz1 hy1 hb1 rfl (by decide) _ _ _ rfl (World.ownsRow_nil _ _ _ _) ⟨g, off, none⟩ K c' ((ll.take K).flatMap C.spc) rfl HLen.out HSr.out (spc_one _) (by unfold maxLen; omega) (by omega) (Nat.le_refl _) ?_; intro v5 w5 o5 g5 _ t5; obtain ⟨e0, e1, e2, e3, e4, f4⟩ := rq_cells HR4.out HB4.out.2.1 g5; obtain ⟨a5, c5, rfl⟩ := own_sl5 o5)
          have HS5 : Hid (C.SOwn w5 w4.heap.size (.slice a5 K c5) (ll.take K)) := by show C.SOwn _ _ _ _; unfold C.SOwn; rw [HTk.out]; simpa using o5
          have HG5 : Hid (w4.grownBy w5 (Value.slice none 0 0).ownBlock) := g5
          obtain ⟨w6, hw6⟩ : ∃ w6, w5.setCell ⟨x2.heap.size, 4, none⟩ (.slice a5 K c5) = w6 := ⟨_, rfl⟩
          have HW6 : Hid (w5.setCell ⟨x2.heap.size, 4, none⟩ (.slice a5 K c5) = w6) := hw6
          have HR6 : Hid (w6.heap[x2.heap.size]? = some (.cells #[.int .i64 sr', .int .i64 ck, .int .i64 U, .int .i64 lo', .slice a5 K c5] 75 (0, 0))) := by
            show _ = _
            rw [← hw6]
            exact heap_setCell_same _ _ 4 _ _ _ ((g5.block _ (by have := HB4.out.2.1; omega) (fun e => by cases e)).trans HR4.out)
          have HB6 : Hid (Below wa.heap.size wa w6 ∧ w5.heap.size = w6.heap.size ∧ w4.heap.size ≤ w5.heap.size) := by
            have h5 : Below w4.heap.size w4 w5 := ⟨g5.os, g5.tape, g5.output, g5.size, fun q hq => g5.block q hq (fun e => by cases e)⟩
            have h6 := HB4.out.1.trans (h5.mono HB4.out.1.size)
            rw [← hw6]
            exact ⟨h6.setCell (by show _ ≤ x2.heap.size; exact HB2.out.size) _, by simp, g5.size⟩
          have HS6 : Hid (C.SOwn w6 w4.heap.size (.slice a5 K c5) (ll.take K)) := HS5.out.blk2 (fun q hq => by rw [← hw6]; exact Below.heap_setCell _ _ _ _ (by show q ≠ x2.heap.size; have := (HS5.out.lt q hq).1; have := HB4.out.2.1; omega))
          have HLO : Hid (w3.heap.size ≤ wa.heap.size ∧ wa.heap.size ≤ x2.heap.size ∧ w4.heap.size = x2.heap.size + 1 ∧ x2.heap.size < w6.heap.size) := ⟨HDW.out.bel.size, HB2.out.size, HB4.out.2.1, by have := HB6.out.2; have := HB4.out.2.1; omega⟩
          have HB7 : Hid (Below wa.heap.size wa (w6.alloc (.cells #[.int .i64 sr', .int .i64 ck, .int .i64 U, .int .i64 lo', .slice a5 K c5] 75))) := HB6.out.1.alloc HB6.out.1.size _
          have HS7 : Hid (C.SOwn (w6.alloc (.cells #[.int .i64 sr', .int .i64 ck, .int .i64 U, .int .i64 lo', .slice a5 K c5] 75)) wa.heap.size (.slice a5 K c5) (ll.take K)) := own_low5 (HS6.out.blk2 (fun q hq => ((Below.refl w6.heap.size w6).alloc (Nat.le_refl _) (.cells #[.int .i64 sr', .int .i64 ck, .int .i64 U, .int .i64 lo', .slice a5 K c5] 75)).block q (HS6.out.lt q hq).2)) (by have := HLO.out; omega)
          have HR7 : Hid ((w6.alloc (.cells #[.int .i64 sr', .int .i64 ck, .int .i64 U, .int .i64 lo', .slice a5 K c5] 75)).ownsRow w3.heap.size 75 5 (.slice la os.length lc) os.length (rpC os)) := C.own_blk2 HDW.out.r5.row (fun q hq => HB7.out.block q (HDW.out.r5.row.lt q hq).2)
          have HNb : Hid (∀ q, (Value.slice la os.length lc).ownBlock = some q → q < wa.heap.size ∧ wa.heap.size ≤ x2.heap.size) := fun q hq => ⟨(HDW.out.r5.row.lt q hq).2, HB2.out.size⟩
          have y0 : w6.cell? ⟨x2.heap.size, 0, none⟩ = some (.int .i64 sr') := (cell_of_row _ _ _ _ _ _ HR6.out).trans rfl
          have y1 : w6.cell? ⟨x2.heap.size, 1, none⟩ = some (.int .i64 ck) := (cell_of_row _ _ _ _ _ _ HR6.out).trans rfl
          have y2 : w6.cell? ⟨x2.heap.size, 2, none⟩ = some (.int .i64 U) := (cell_of_row _ _ _ _ _ _ HR6.out).trans rfl
          have y3 : w6.cell? ⟨x2.heap.size, 3, none⟩ = some (.int .i64 lo') := (cell_of_row _ _ _ _ _ _ HR6.out).trans rfl
          have y4 : w6.cell? ⟨x2.heap.size, 4, none⟩ = some (.slice a5 K c5) := (cell_of_row _ _ _ _ _ _ HR6.out).trans rfl
          rw [HW6.out]
          have hwr : IntKind.i64.wrap (sr' + 1) = sr' + 1 := by rw [IntKind.wrap_i64]; omega
          have hnn : (K : Int) ≤ (n' : Int) := by omega
          clear o5 g5 t5 e0 e1 e2 e3 e4 f4 x4 hw6 HS5 HG5 HS6 HB6 HR4 HW4 HW6
          by_cases hcn : c' = K
          · have e1 : n' = K := by omega
            subst hcn
            subst e1
            go_wp2_with (at_builtin; refine wpList_append_own_at _ rfl _ _ 61 rfl w3.heap.size 75 i0 _ 5 56 Tryd.underlying61 hi0 hz0 hy0 hb0 rfl (by decide) _ _ _ rfl HR7.out ⟨w6.heap.size, 0, none⟩ 1 1 [.int .i64 sr', .int .i64 ck, .int .i64 U, .int .i64 lo', .slice a5 n' c5] rfl rfl (rep_lit _ _ _ _ _ _) (rep_one _ _ _ _ _ _ _) (by unfold maxLen; omega) (by omega) (by have := HLO.out; simp; omega) ?_; intro v8 w8 o8 g8 _ t8; obtain ⟨j0, j1⟩ := rq_after HR6.out HLO.out.2.2.2 HNb.out g8)
            have HN6 : Hid (DlR ⟨o, n, mtu, ck, up⟩ L lo sr w3 w8 (upA up ll n') (sr' + 1) (ll.drop n') (os ++ [⟨rep5 ⟨o, n, mtu, ck, up⟩ lo' sr' ll n', a5, c5⟩]) (some ⟨g, off, none⟩) 0 v8) :=
              HDW.out.step HOK.out HNE.out hle HNR.out HB7.out HS7.out g8 (by show World.ownsRow _ _ _ _ _ _ (rpC os ++ [_, _, .int .i64 (upA up ll n'), _, _]); rw [HU.out]; exact o8) t8 (by rw [List.drop_eq_nil_of_le (by rw [HL.out]; omega)]; exact cin_nil _ _ _) (by rw [List.drop_eq_nil_of_le (by rw [HL.out]; omega)]; exact Nat.le_refl _) (by omega)
            rw [HU.out] at HN6
            have HD6 : Hid ((ll.drop n').length = 0) := by show _ = _; rw [List.drop_eq_nil_of_le (by rw [HL.out]; omega)]; rfl
            clear o8 g8 t8
            go_roundg 0
            case measure => omega
            case rel => exact ⟨U, sr' + 1, ll.drop n', os ++ [(⟨rep5 ⟨o, n, mtu, ck, up⟩ lo' sr' ll n', a5, c5⟩ : R5o)], _, 0, 0, rfl, rfl, rfl, Nat.le_refl _, hid_and HD6 HN6⟩
          · have hcn1 : ¬ (c' : Int) = (K : Int) := by omega
            go_wp2_with (at_builtin; refine wpList_append_own_at _ rfl _ _ 61 rfl w3.heap.size 75 i0 _ 5 56 Tryd.underlying61 hi0 hz0 hy0 hb0 rfl (by decide) _ _ _ rfl HR7.out ⟨w6.heap.size, 0, none⟩ 1 1 [.int .i64 sr', .int .i64 ck, .int .i64 U, .int .i64 lo', .slice a5 K c5] rfl rfl (rep_lit _ _ _ _ _ _) (rep_one _ _ _ _ _ _ _) (by unfold maxLen; omega) (by omega) (by have := HLO.out; simp; omega) ?_; intro v8 w8 o8 g8 _ t8; obtain ⟨j0, j1⟩ := rq_after HR6.out HLO.out.2.2.2 HNb.out g8)
            have HN6 : Hid (DlR ⟨o, n, mtu, ck, up⟩ L lo sr w3 w8 (upA up ll K) (sr' + 1) (ll.drop K) (os ++ [⟨rep5 ⟨o, n, mtu, ck, up⟩ lo' sr' ll K, a5, c5⟩]) (some ⟨g, off + K * 2, none⟩) (c' - K) v8) :=
              HDW.out.step HOK.out HNE.out hle HNR.out HB7.out HS7.out g8 (by show World.ownsRow _ _ _ _ _ _ (rpC os ++ [_, _, .int .i64 (upA up ll K), _, _]); rw [HU.out]; exact o8) t8 (cin_drop HDW.out.ci _) (by rw [List.length_drop, HL.out]; omega) (by omega)
            rw [HU.out] at HN6
            have HD6 : Hid ((ll.drop K).length = n' - K) := by show _ = _; rw [List.length_drop, HL.out]
            clear o8 g8 t8
            go_roundg (n' - K)
            case measure => omega
            case rel => exact ⟨U, sr' + 1, ll.drop K, os ++ [(⟨rep5 ⟨o, n, mtu, ck, up⟩ lo' sr' ll K, a5, c5⟩ : R5o)], _, n' - K, c' - K, rfl, rfl, rfl, Nat.le_refl _, hid_and HD6 HN6⟩


end Go.Proofs.YthbkabehjeidjaeDoor
