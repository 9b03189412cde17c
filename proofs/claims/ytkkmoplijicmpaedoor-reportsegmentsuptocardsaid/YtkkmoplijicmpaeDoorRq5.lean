import Derived.Test.YtkkmoplijicmpaeDoorRpV
import Derived.Test.YtkkmoplijicmpaeDoorRpU
import Derived.Deep.CutBlock
import Derived.Deep.RegionHeld3
import Derived.BigQuiet
namespace Go.Proofs.YtkkmoplijicmpaeDoor
open Go.RowKit
set_option linter.unusedVariables false
set_option linter.unusedSimpArgs false

theorem spc_one (l : List (Int × Int)) : ∀ v ∈ l.flatMap C.spc, v.oneCell' = true := by
  intro v hv; obtain ⟨p, _, hp⟩ := List.mem_flatMap.mp hv; simp [C.spc] at hp; rcases hp with rfl | rfl <;> rfl
theorem laid_keep {W w9 : World} {b : Nat} {x : Obj} (h : W.heap[b + 3]? = some x) (hz : W.heap.size = b + 4) (hg : W.grownBy w9 (Value.slice none 0 0).ownBlock) : w9.heap[b + 1 + 1 + 1]? = some x := (hg.block (b + 3) (by omega) (fun e => by cases e)).trans h
theorem laid_keep2 {W w9 : World} {b : Nat} {x : Obj} (h : W.heap[b + 2]? = some x) (hz : W.heap.size = b + 4) (hg : W.grownBy w9 (Value.slice none 0 0).ownBlock) : w9.heap[b + 1 + 1]? = some x := (hg.block (b + 2) (by omega) (fun e => by cases e)).trans h
theorem laid_cells {V : World} {b : Nat} {k : Qu} {r : Rr} (hx : V.heap[b + 1]? = some (.cells (rsC k r none 0 0) 81 (0, 0))) (hy : V.heap[b]? = some (.cells #[.int .i64 0, .int .i64 0, .int .i64 0, .slice none 0 0, .slice none 0 0, .int .i64 0, .int .i64 0, .slice none 0 0, .int .i64 0, .int .i64 0, .int .i64 0, .int .i64 0, .slice none 0 0, .int .i64 0] 81 (0, 0))) : V.cell? ⟨b + 1, 0, none⟩ = some (.int .i64 8) ∧ V.cell? ⟨b + 1, 1, none⟩ = some (.int .i64 k.org) ∧ V.cell? ⟨b + 1, 2, none⟩ = some (.int .i64 k.num) ∧ V.cell? ⟨b + 1, 3, none⟩ = some (.slice none 0 0) ∧ V.cell? ⟨b + 1, 4, none⟩ = some (.slice none 0 0) ∧ V.cell? ⟨b + 1, 5, none⟩ = some (.int .i64 0) ∧ V.cell? ⟨b + 1, 6, none⟩ = some (.int .i64 0) ∧ V.cell? ⟨b + 1, 7, none⟩ = some (.slice none 0 0) ∧ V.cell? ⟨b + 1, 8, none⟩ = some (.int .i64 r.chk) ∧ V.cell? ⟨b + 1, 9, none⟩ = some (.int .i64 r.ser) ∧ V.cell? ⟨b + 1, 10, none⟩ = some (.int .i64 r.upp) ∧ V.cell? ⟨b + 1, 11, none⟩ = some (.int .i64 r.low) ∧ V.cell? ⟨b + 1, 12, none⟩ = some (.slice none 0 0) ∧ V.cell? ⟨b + 1, 13, none⟩ = some (.int .i64 0) ∧ V.frozen? ⟨b + 1, 12, none⟩ = false ∧ V.cell? ⟨b, 0, none⟩ = some (.int .i64 0) ∧ V.cell? ⟨b, 1, none⟩ = some (.int .i64 0) ∧ V.cell? ⟨b, 2, none⟩ = some (.int .i64 0) ∧ V.cell? ⟨b, 3, none⟩ = some (.slice none 0 0) ∧ V.cell? ⟨b, 4, none⟩ = some (.slice none 0 0) ∧ V.cell? ⟨b, 5, none⟩ = some (.int .i64 0) ∧ V.cell? ⟨b, 6, none⟩ = some (.int .i64 0) ∧ V.cell? ⟨b, 7, none⟩ = some (.slice none 0 0) ∧ V.cell? ⟨b, 8, none⟩ = some (.int .i64 0) ∧ V.cell? ⟨b, 9, none⟩ = some (.int .i64 0) ∧ V.cell? ⟨b, 10, none⟩ = some (.int .i64 0) ∧ V.cell? ⟨b, 11, none⟩ = some (.int .i64 0) ∧ V.cell? ⟨b, 12, none⟩ = some (.slice none 0 0) ∧ V.cell? ⟨b, 13, none⟩ = some (.int .i64 0) ∧ V.frozen? ⟨b, 0, none⟩ = false ∧ V.frozen? ⟨b, 1, none⟩ = false ∧ V.frozen? ⟨b, 2, none⟩ = false ∧ V.frozen? ⟨b, 3, none⟩ = false ∧ V.frozen? ⟨b, 4, none⟩ = false ∧ V.frozen? ⟨b, 5, none⟩ = false ∧ V.frozen? ⟨b, 6, none⟩ = false ∧ V.frozen? ⟨b, 7, none⟩ = false ∧ V.frozen? ⟨b, 8, none⟩ = false ∧ V.frozen? ⟨b, 9, none⟩ = false ∧ V.frozen? ⟨b, 10, none⟩ = false ∧ V.frozen? ⟨b, 11, none⟩ = false ∧ V.frozen? ⟨b, 12, none⟩ = false ∧ V.frozen? ⟨b, 13, none⟩ = false :=
  ⟨(cell_of_row _ _ _ _ _ _ hx).trans rfl, (cell_of_row _ _ _ _ _ _ hx).trans rfl, (cell_of_row _ _ _ _ _ _ hx).trans rfl, (cell_of_row _ _ _ _ _ _ hx).trans rfl, (cell_of_row _ _ _ _ _ _ hx).trans rfl, (cell_of_row _ _ _ _ _ _ hx).trans rfl, (cell_of_row _ _ _ _ _ _ hx).trans rfl, (cell_of_row _ _ _ _ _ _ hx).trans rfl, (cell_of_row _ _ _ _ _ _ hx).trans rfl, (cell_of_row _ _ _ _ _ _ hx).trans rfl, (cell_of_row _ _ _ _ _ _ hx).trans rfl, (cell_of_row _ _ _ _ _ _ hx).trans rfl, (cell_of_row _ _ _ _ _ _ hx).trans rfl, (cell_of_row _ _ _ _ _ _ hx).trans rfl, frozen_of_row _ _ _ _ _ hx, (cell_of_row _ _ _ _ _ _ hy).trans rfl, (cell_of_row _ _ _ _ _ _ hy).trans rfl, (cell_of_row _ _ _ _ _ _ hy).trans rfl, (cell_of_row _ _ _ _ _ _ hy).trans rfl, (cell_of_row _ _ _ _ _ _ hy).trans rfl, (cell_of_row _ _ _ _ _ _ hy).trans rfl, (cell_of_row _ _ _ _ _ _ hy).trans rfl, (cell_of_row _ _ _ _ _ _ hy).trans rfl, (cell_of_row _ _ _ _ _ _ hy).trans rfl, (cell_of_row _ _ _ _ _ _ hy).trans rfl, (cell_of_row _ _ _ _ _ _ hy).trans rfl, (cell_of_row _ _ _ _ _ _ hy).trans rfl, (cell_of_row _ _ _ _ _ _ hy).trans rfl, (cell_of_row _ _ _ _ _ _ hy).trans rfl, frozen_of_row _ _ _ _ _ hy, frozen_of_row _ _ _ _ _ hy, frozen_of_row _ _ _ _ _ hy, frozen_of_row _ _ _ _ _ hy, frozen_of_row _ _ _ _ _ hy, frozen_of_row _ _ _ _ _ hy, frozen_of_row _ _ _ _ _ hy, frozen_of_row _ _ _ _ _ hy, frozen_of_row _ _ _ _ _ hy, frozen_of_row _ _ _ _ _ hy, frozen_of_row _ _ _ _ _ hy, frozen_of_row _ _ _ _ _ hy, frozen_of_row _ _ _ _ _ hy, frozen_of_row _ _ _ _ _ hy⟩

/-- Two blocks alone were written. -/
structure Kp2 (w V : World) (b : Nat) : Prop where
  os : V.os = w.os
  tape : V.tape = w.tape
  output : V.output = w.output
  size : V.heap.size = w.heap.size
  block : ∀ g, g ≠ b → g ≠ b + 1 → V.heap[g]? = w.heap[g]?
theorem Kp2.refl (w : World) (b : Nat) : Kp2 w w b := ⟨rfl, rfl, rfl, rfl, fun _ _ _ => rfl⟩
theorem Kp2.set {w V : World} {b : Nat} (h : Kp2 w V b) (g i : Nat) (hg : g = b ∨ g = b + 1) (u : Value) : Kp2 w (V.setCell ⟨g, i, none⟩ u) b :=
  ⟨h.os, h.tape, h.output, by rw [← h.size]; simp, fun j h1 h2 => (Below.heap_setCell _ _ _ _ (by show j ≠ g; omega)).trans (h.block j h1 h2)⟩
theorem laid_end {w W w9 V : World} {n c9 : Nat} {a9 : Option Addr} {l : List (Int × Int)} (hb : Below w.heap.size w W) (hz : W.heap.size = w.heap.size + 4) (hg : W.grownBy w9 (Value.slice none 0 0).ownBlock) (ho : C.SOwn w9 W.heap.size (.slice a9 n c9) l) (hk : Kp2 w9 V (w.heap.size + 1 + 1)) : C.SOwn V w.heap.size (.slice a9 n c9) l ∧ Below w.heap.size w V := by
  have hgz := hg.size
  refine ⟨own_low5 (ho.blk2 fun g hgb => hk.block g (by have := (ho.lt g hgb).1; omega) (by have := (ho.lt g hgb).1; omega)) (by omega), hk.os.trans (hg.os.trans hb.os), hk.tape.trans (hg.tape.trans hb.tape), hk.output.trans (hg.output.trans hb.output), by rw [hk.size]; omega, fun g hgl => ?_⟩
  exact (hk.block g (by omega) (by omega)).trans ((hg.block g (by omega) (fun e => by cases e)).trans (hb.block g hgl))

set_option maxRecDepth 100000 in
set_option maxHeartbeats 8000000 in
theorem rqLaid_any (k : Qu) (r : Rr) (a : Option Addr) (n c : Nat) (hn : r.clm.length = n) (h1 : 1 ≤ n) (w : World) (hC : CIn w (.slice a n c) r.clm) :
    Calls Tryd.prog 86 #[.agg #[.int .i64 k.org, .int .i64 k.num], .agg (rpA r n a c)] w fun e w' => ∃ a' c', e = .returned (.agg (rsC k r a' n c')) ∧ C.SOwn w' w.heap.size (.slice a' n c') r.clm ∧ Below w.heap.size w w' := by
  obtain ⟨i0, hi, hz0, hz1, hz2⟩ := info_parts C.Tryd.info_span
  obtain ⟨g, off, rfl⟩ : ∃ g off, a = some ⟨g, off, none⟩ := by
    obtain ⟨p, hp⟩ := get_one r.clm 0 (by omega)
    obtain ⟨g, off, he, _⟩ := hC.at hp
    exact ⟨g, off, he⟩
  obtain ⟨W, hW⟩ : ∃ W, (((w.alloc (.cells #[.int .i64 k.org, .int .i64 k.num] 23)).alloc (.cells (rpA r n (some ⟨g, off, none⟩) c) 75)).alloc (.cells #[.int .i64 0, .int .i64 0, .int .i64 0, .slice none 0 0, .slice none 0 0, .int .i64 0, .int .i64 0, .slice none 0 0, .int .i64 0, .int .i64 0, .int .i64 0, .int .i64 0, .slice none 0 0, .int .i64 0] 81)).alloc (.cells (rsC k r none 0 0) 81) = W := ⟨_, rfl⟩
  have HWe : Hid (_ = W) := hW
  have HBW : Hid (Below w.heap.size w W) := by show Below _ _ _; rw [← hW]; exact ((((Below.refl _ _).alloc (Nat.le_refl _) _).alloc (by simp) _).alloc (by simp; omega) _).alloc (by simp; omega) _
  have HZ : Hid (W.heap.size = w.heap.size + 4) := by show _ = _; rw [← hW]; simp
  have HX : Hid (W.heap[w.heap.size + 3]? = some (.cells (rsC k r none 0 0) 81 (0, 0))) := by
    show _ = _
    rw [← hW]
    have := al_new (((w.alloc (.cells #[.int .i64 k.org, .int .i64 k.num] 23)).alloc (.cells (rpA r n (some ⟨g, off, none⟩) c) 75)).alloc (.cells #[.int .i64 0, .int .i64 0, .int .i64 0, .slice none 0 0, .slice none 0 0, .int .i64 0, .int .i64 0, .slice none 0 0, .int .i64 0, .int .i64 0, .int .i64 0, .int .i64 0, .slice none 0 0, .int .i64 0] 81)) (.cells (rsC k r none 0 0) 81)
    rw [World.size_alloc, World.size_alloc, World.size_alloc] at this
    exact this
  have HY : Hid (W.heap[w.heap.size + 2]? = some (.cells #[.int .i64 0, .int .i64 0, .int .i64 0, .slice none 0 0, .slice none 0 0, .int .i64 0, .int .i64 0, .slice none 0 0, .int .i64 0, .int .i64 0, .int .i64 0, .int .i64 0, .slice none 0 0, .int .i64 0] 81 (0, 0))) := by
    show _ = _
    rw [← hW]
    have := al_new ((w.alloc (.cells #[.int .i64 k.org, .int .i64 k.num] 23)).alloc (.cells (rpA r n (some ⟨g, off, none⟩) c) 75)) (.cells #[.int .i64 0, .int .i64 0, .int .i64 0, .slice none 0 0, .slice none 0 0, .int .i64 0, .int .i64 0, .slice none 0 0, .int .i64 0, .int .i64 0, .int .i64 0, .int .i64 0, .slice none 0 0, .int .i64 0] 81)
    rw [World.size_alloc, World.size_alloc] at this
    exact al_old this
  have HSr : Hid (∀ k u, (r.clm.flatMap C.spc)[k]? = some u → W.cell? ((⟨g, off, none⟩ : Addr).add k) = some u) := cin_src (hC.below HBW.out)
  have HLen : Hid ((r.clm.flatMap C.spc).length = n * 2) := by show _ = _; rw [C.spc_len, hn]
  have hsm : n ≤ 1048576 := by rw [← hn]; exact hC.small
  have HN : Hid (r.clm.length = n) := hn
  clear hW hC hn
  go_enter Tryd.func86, Tryd.ntmps86
  go_wp2_with (at_builtin; rw [HWe.out]; refine wpList_append_own_at _ rfl _ _ 26 rfl W.heap.size 36 i0 (.agg #[.int .i64 0, .int .i64 0]) 2 16 Tryd.underlying26 hi hz0 hz1 hz2 rfl (by decide) _ _ _ rfl (World.ownsRow_nil _ _ _ _) ⟨g, off, none⟩ n c (r.clm.flatMap C.spc) rfl HLen.out HSr.out (spc_one _) (by unfold maxLen; omega) (by omega) (Nat.le_refl _) ?_; intro v9 w9 o9 g9 _ t9; obtain ⟨e0, e1, e2, e3, e4, e5, e6, e7, e8, e9, e10, e11, e12, e13, f12, d0, d1, d2, d3, d4, d5, d6, d7, d8, d9, d10, d11, d12, d13, z0, z1, z2, z3, z4, z5, z6, z7, z8, z9, z10, z11, z12, z13⟩ := laid_cells (laid_keep HX.out HZ.out g9) (laid_keep2 HY.out HZ.out g9); obtain ⟨a9, c9, rfl⟩ := own_sl5 o9)
  have HSO : Hid (C.SOwn w9 W.heap.size (.slice a9 n c9) r.clm) := by show C.SOwn _ _ _ _; unfold C.SOwn; rw [HN.out]; simpa using o9
  have HG9 : Hid (W.grownBy w9 (Value.slice none 0 0).ownBlock) := g9
  clear o9 g9 t9
  refine bodyPost_ret (v := .agg (rsC k r a9 n c9)) (by simp [results, Tryd.results86, go_sem, d0, d1, d2, d3, d4, d5, d6, d7, d8, d9, d10, d11, d12, d13]) rfl ?_
  obtain ⟨q1, q2⟩ := laid_end HBW.out HZ.out HG9.out HSO.out ((((((((((((((((Kp2.refl w9 _).set _ _ (.inr rfl) _).set _ _ (.inl rfl) _).set _ _ (.inl rfl) _).set _ _ (.inl rfl) _).set _ _ (.inl rfl) _).set _ _ (.inl rfl) _).set _ _ (.inl rfl) _).set _ _ (.inl rfl) _).set _ _ (.inl rfl) _).set _ _ (.inl rfl) _).set _ _ (.inl rfl) _).set _ _ (.inl rfl) _).set _ _ (.inl rfl) _).set _ _ (.inl rfl) _).set _ _ (.inl rfl) _)
  exact ⟨a9, c9, rfl, q1, q2⟩

end Go.Proofs.YtkkmoplijicmpaeDoor

namespace Go.Proofs.YtkkmoplijicmpaeDoor
open Go.RowKit
set_option linter.unusedVariables false
set_option linter.unusedSimpArgs false

/-- The reference's Make, between two rounds. X: the world behind Within. -/
structure DlR (k : Qu) (l : List (Int × Int)) (lo sr : Int) (X wr : World) (lo' sr' : Int) (ll : List (Int × Int)) (os : List R5o) (a : Option Addr) (c : Nat) (lv : Value) : Prop where
  ci : CIn X (.slice a ll.length c) ll
  cap : ll.length ≤ c
  cc : c ≤ 9223372036854775807
  dl : DlI k l lo sr lo' sr' ll os
  r5 : R5 wr X.heap.size lv os
  bel : Below X.heap.size X wr
theorem DlR.start {k : Qu} {l : List (Int × Int)} {lo sr : Int} {X : World} {a : Option Addr} {c : Nat} (hC : CIn X (.slice a l.length c) l) (hm : l.length ≤ c) (hc : c ≤ 9223372036854775807) (hb : Bg k lo sr l) (hs : sr ≤ 4611686018427387903) : DlR k l lo sr X X lo sr l [] a c (.slice none 0 0) :=
  ⟨hC, hm, hc, DlI.start hb hs, R5.start _ _, Below.refl _ _⟩
theorem DlR.step {k : Qu} (ok : k.Ok) {l : List (Int × Int)} {lo sr lo' sr' : Int} {X wr w6 w7 : World} {ll : List (Int × Int)} {os : List R5o} {a a' a4 : Option Addr} {c c' n c4 : Nat} {lv v7 : Value} (h : DlR k l lo sr X wr lo' sr' ll os a c lv) (hne : ll ≠ []) (hs : sr' ≤ 4611686018427387903)
    (hn : NR (fit5 k lo' sr' ll) (min ll.length 1000) n) (hb : Below wr.heap.size wr w6) (h4 : C.SOwn w6 wr.heap.size (.slice a4 n c4) (ll.take n)) (hg : w6.grownBy w7 lv.ownBlock)
    (hr : w7.ownsRow X.heap.size 75 5 v7 (os.length + 1) (rpC os ++ [.int .i64 sr', .int .i64 k.chk, .int .i64 (upA k.upp ll n), .int .i64 lo', .slice a4 n c4])) (hf : v7.ownBlock = lv.ownBlock ∨ v7.ownBlock = some w6.heap.size)
    (hci : CIn X (.slice a' (ll.drop n).length c') (ll.drop n)) (hcap : (ll.drop n).length ≤ c') (hcc : c' ≤ 9223372036854775807) :
    DlR k l lo sr X w7 (upA k.upp ll n) (sr' + 1) (ll.drop n) (os ++ [⟨rep5 k lo' sr' ll n, a4, c4⟩]) a' c' v7 := by
  obtain ⟨n1, n2, n3⟩ := nm_one ok h.dl.bg hs hne hn
  have hl3 : (ll.take n).length = n := by simp; omega
  have hR7 : R5 w7 X.heap.size v7 (os ++ [⟨rep5 k lo' sr' ll n, a4, c4⟩]) := by
    refine h.r5.push h.bel.size hb ⟨rep5 k lo' sr' ll n, a4, c4⟩ ?_ hg ?_ ?_
    · show C.SOwn w6 wr.heap.size (.slice a4 (ll.take n).length c4) (ll.take n)
      rw [hl3]
      exact h4
    · have : rpc ⟨rep5 k lo' sr' ll n, a4, c4⟩ = [.int .i64 sr', .int .i64 k.chk, .int .i64 (upA k.upp ll n), .int .i64 lo', .slice a4 n c4] := by
        show [_, _, _, _, Value.slice a4 (ll.take n).length c4] = _
        rw [hl3]
        rfl
      rw [this]
      exact hr
    · intro j hj
      rcases hf with q | q
      · left; exact q.symm.trans hj
      · right; rw [q] at hj; cases hj; exact Nat.le_refl _
  have hB6 : Below X.heap.size X w6 := h.bel.trans (hb.mono h.bel.size)
  exact ⟨hci, hcap, hcc, h.dl.step ok hne hs hn a4 c4, hR7, ⟨hg.os.trans hB6.os, hg.tape.trans hB6.tape, hg.output.trans hB6.output, Nat.le_trans hB6.size hg.size, fun g hgl => (hg.block g (Nat.lt_of_lt_of_le hgl hB6.size) (fun e => by have := (h.r5.row.lt g e.symm).1; omega)).trans (hB6.block g hgl)⟩⟩
theorem DlR.fin {k : Qu} {l : List (Int × Int)} {lo sr lo' sr' : Int} {w X wr : World} {os : List R5o} {a la : Option Addr} {c lc : Nat} (h : DlR k l lo sr X wr lo' sr' [] os a c (.slice la os.length lc)) (hX : Below w.heap.size w X) (hl : l.length ≤ 2000) :
    MkP (dlE (dl5 k (l.length + 1) lo sr l)) (dlL (dl5 k (l.length + 1) lo sr l)) w (.returned (.tuple #[.slice la os.length lc, .int .i64 0])) wr := by
  rw [h.dl.done]
  have hc := h.dl.cnt
  refine ⟨la, lc, os, ?_, rfl, ?_, ?_, ?_, hX.trans (h.bel.mono hX.size)⟩
  · show _ = Ending.returned (.tuple #[.slice la (os.map R5o.r).length lc, .int .i64 0])
    rw [List.length_map]
  · show R5 wr w.heap.size (.slice la (os.map R5o.r).length lc) os
    rw [List.length_map]
    exact h.r5.lower hX.size
  · intro r hr
    obtain ⟨o, ho, rfl⟩ := List.mem_map.mp hr
    exact h.dl.few o ho
  · show (os.map R5o.r).length ≤ 2000
    rw [List.length_map]
    omega
theorem DlR.over {k : Qu} {l : List (Int × Int)} {lo sr lo' sr' : Int} {w X wr : World} {ll : List (Int × Int)} {os : List R5o} {a : Option Addr} {c : Nat} {lv : Value} (h : DlR k l lo sr X wr lo' sr' ll os a c lv) (hX : Below w.heap.size w X) (hne : ll ≠ []) (hs : 4611686018427387903 < sr') :
    MkP (dlE (dl5 k (l.length + 1) lo sr l)) (dlL (dl5 k (l.length + 1) lo sr l)) w (.returned (.tuple #[.slice none 0 0, .int .i64 3])) wr := by
  rw [h.dl.big hne hs]
  exact ⟨none, 0, [], rfl, rfl, R5.start _ _, by simp [dlL], by simp [dlL], hX.trans (h.bel.mono hX.size)⟩
end Go.Proofs.YtkkmoplijicmpaeDoor

namespace Go.Proofs.YtkkmoplijicmpaeDoor
open Go.RowKit
set_option linter.unusedVariables false
set_option linter.unusedSimpArgs false

/-! ## What reports lie side by side: numbers and lists alone -/
/-- The reports one behind the other. -/
structure Ch (k : Qu) (lo sr : Int) (L : List (Int × Int)) (rs : List Rr) (LO : Nat → Int) (LL : Nat → List (Int × Int)) (NN : Nat → Nat) : Prop where
  lo0 : LO 0 = lo
  l0 : LL 0 = L
  one : ∀ i : Nat, i < rs.length → LL i ≠ [] ∧ sr + (i : Int) ≤ 4611686018427387903 ∧ NR (fit5 k (LO i) (sr + i) (LL i)) (min (LL i).length 1000) (NN i) ∧ rs[i]? = some (rep5 k (LO i) (sr + i) (LL i) (NN i)) ∧ LO (i + 1) = upA k.upp (LL i) (NN i) ∧ LL (i + 1) = (LL i).drop (NN i) ∧ Bg k (LO i) (sr + i) (LL i)
  fin : LL rs.length = []
section
variable {k : Qu} {lo sr : Int} {L : List (Int × Int)} {rs : List Rr} {LO : Nat → Int} {LL : Nat → List (Int × Int)} {NN : Nat → Nat}
theorem Ch.num (ok : k.Ok) (h : Ch k lo sr L rs LO LL NN) {i : Nat} (hi : i < rs.length) : 1 ≤ NN i ∧ NN i ≤ (LL i).length ∧ NN i ≤ 1000 := by
  obtain ⟨h1, h2, h3, _, _, _, h7⟩ := h.one i hi
  exact nm_one ok h7 h2 h1 h3
theorem Ch.rep (ok : k.Ok) (h : Ch k lo sr L rs LO LL NN) {i : Nat} (hi : i < rs.length) : (rep5 k (LO i) (sr + i) (LL i) (NN i)).Ok ∧ (ln5 k (rep5 k (LO i) (sr + i) (LL i) (NN i)) : Int) ≤ k.mtu := by
  obtain ⟨h1, h2, h3, _, _, _, h7⟩ := h.one i hi
  obtain ⟨n1, n2, n3⟩ := h.num ok hi
  have hok := rep_ok ok h7 h2 n1 n2 n3
  have hf := h3.all (NN i - 1) (by omega)
  rw [show NN i - 1 + 1 = NN i by omega] at hf
  exact ⟨hok, (fit_iff ok hok).mp hf⟩
end

end Go.Proofs.YtkkmoplijicmpaeDoor

namespace Go.Proofs.YtkkmoplijicmpaeDoor
open Go.RowKit
set_option linter.unusedVariables false
set_option linter.unusedSimpArgs false

/-! ## report.Segment and the reference's, of a report that may be -/
theorem ext_al (w : World) (o : Obj) : w.alloc o = ext w ⟨[o], 0⟩ := rfl
theorem asked_x (f t : Int) (w : World) (h1 : 0 ≤ f) (h2 : f ≤ t) (h3 : t ≤ 4611686018427387903) : Calls Tryd.prog 115 #[.agg #[.int .i64 f, .int .i64 t]] w fun e w' => e = .returned (.bool true) ∧ ∃ y, w' = ext w y := by
  have HB : Hid (∃ y, w.alloc (.cells #[.int .i64 f, .int .i64 t] 36) = ext w y) := ⟨_, ext_al w _⟩
  go_enter Tryd.func115, Tryd.ntmps115
  go_wp2
  go_ret
  exact ⟨rfl, HB.out⟩
theorem may_x (f t : Int) (w : World) (h1 : 0 ≤ f) (h2 : f < t) (h3 : t ≤ 4611686018427387903) : Calls Tryd.prog 119 #[.agg #[.int .i64 f, .int .i64 t]] w fun e w' => e = .returned (.bool true) ∧ ∃ y, w' = ext w y := by
  have HA := asked_x f t (w.alloc (.cells #[.int .i64 f, .int .i64 t] 36)) h1 (by omega) h3
  have h0 : (w.alloc (.cells #[.int .i64 f, .int .i64 t] 36)).heap[w.heap.size]? = some (.cells #[.int .i64 f, .int .i64 t] 36 (0, 0)) := al_new _ _
  have HC : Hid (∀ y, (ext (w.alloc (.cells #[.int .i64 f, .int .i64 t] 36)) y).cell? ⟨w.heap.size, 0, none⟩ = some (.int .i64 f) ∧ (ext (w.alloc (.cells #[.int .i64 f, .int .i64 t] 36)) y).cell? ⟨w.heap.size, 1, none⟩ = some (.int .i64 t)) := fun y => by
    have h1 := ((ext_below _ y).block w.heap.size (Array.getElem?_eq_some_iff.1 h0).1).trans h0
    exact ⟨(cell_of_row _ _ _ _ _ _ h1).trans rfl, (cell_of_row _ _ _ _ _ _ h1).trans rfl⟩
  clear h0
  go_enter Tryd.func119, Tryd.ntmps119
  go_wp2_with fail
  refine HA.mono ?_
  rintro e w2 ⟨rfl, y, rfl⟩
  have HX : Hid (∃ z, ext (w.alloc (.cells #[.int .i64 f, .int .i64 t] 36)) y = ext w z) := ⟨_, by rw [ext_al w, ext_ext]⟩
  obtain ⟨c0, c1⟩ := HC.out y
  generalize ext (w.alloc (.cells #[.int .i64 f, .int .i64 t] 36)) y = w2 at *
  clear HA HC
  go_wp2
  go_ret
  exact ⟨rfl, HX.out⟩
set_option maxHeartbeats 2000000 in
/-- claims.Right of a set: it makes new blocks alone. -/
theorem right_x (a : Option Addr) (n c : Nat) (l : List (Int × Int)) (lo up : Int) (w : World) (h : CIn w (.slice a n c) l) (hn : l.length = n) (h2 : n ≤ 1000) (hk : clOk up lo l = true) (hu : up ≤ 65536) (h0 : 0 ≤ lo) :
    Calls Tryd.prog 76 #[.slice a n c] w fun e w' => e = .returned (.bool true) ∧ ∃ y, w' = ext w y := by
  have HS : Hid (CIn w (.slice a n c) l) := h
  have HN : Hid (l.length = n) := hn
  have HK : Hid (clOk up lo l = true) := hk
  have h2' : ¬ (2000 : Int) < (n : Int) := by omega
  clear h hn hk
  go_enter Tryd.func76, Tryd.ntmps76
  go_wp2_with fail
  go_loopw [3, 11] (fun q i wr => ∃ (k : Nat) (least : Int), k ≤ n ∧ i = .int .i64 k ∧ q = .int .i64 least ∧ 0 ≤ least ∧ least ≤ 65537 ∧ Hid ((∃ y, wr = ext w y) ∧ ∀ p, l[k]? = some p → least ≤ p.1)) (fun _ i _ => n - (intOf i).toNat)
  case atStart => exact ⟨0, 0, by omega, rfl, rfl, by omega, by omega, hid_and (p := ∃ y, w = ext w y) ⟨⟨[], 0⟩, rfl⟩ (show ∀ p, l[0]? = some p → (0 : Int) ≤ p.1 from fun p hp => by have := (clOk_at HK.out 0 p hp).1; omega)⟩
  case round =>
    obtain ⟨k, least, hk, rfl, rfl, hl0, hl1, HJ⟩ := hrel
    by_cases hlt : k < n
    · have hlt' : (k : Int) < (n : Int) := by omega
      obtain ⟨p, hp⟩ := get_one l k (by rw [HN.out]; exact hlt)
      obtain ⟨y, hy⟩ := HJ.out.1
      have hbe : Below w.heap.size w wr := by rw [hy]; exact ext_below w y
      obtain ⟨g, off, rfl, q1, q2⟩ := (HS.out.below hbe).at hp
      obtain ⟨b1, b2, b3, _⟩ := clOk_at HK.out k p hp
      have b0 := HJ.out.2 p hp
      have hA := may_x p.1 p.2 (wr.alloc (.cells #[.int .i64 p.1, .int .i64 p.2] 36)) (by omega) b2 (by omega)
      have h0 : (wr.alloc (.cells #[.int .i64 p.1, .int .i64 p.2] 36)).heap[wr.heap.size]? = some (.cells #[.int .i64 p.1, .int .i64 p.2] 36 (0, 0)) := al_new _ _
      have HC : Hid (∀ z, (ext (wr.alloc (.cells #[.int .i64 p.1, .int .i64 p.2] 36)) z).cell? ⟨wr.heap.size, 0, none⟩ = some (.int .i64 p.1) ∧ (ext (wr.alloc (.cells #[.int .i64 p.1, .int .i64 p.2] 36)) z).cell? ⟨wr.heap.size, 1, none⟩ = some (.int .i64 p.2)) := fun z => by
        have h1 := ((ext_below _ z).block wr.heap.size (Array.getElem?_eq_some_iff.1 h0).1).trans h0
        exact ⟨(cell_of_row _ _ _ _ _ _ h1).trans rfl, (cell_of_row _ _ _ _ _ _ h1).trans rfl⟩
      have HX : Hid (∀ z, ∃ z', ext (wr.alloc (.cells #[.int .i64 p.1, .int .i64 p.2] 36)) z = ext w z') := fun z => ⟨_, by rw [hy, ext_al (ext w y), ext_ext, ext_ext]⟩
      have HNx : Hid (∀ q, l[k + 1]? = some q → p.2 + 1 ≤ q.1) := fun q hq => by
        have := (clOk_at HK.out (k + 1) q hq).2.2.2 p (by simpa using hp) (by omega)
        omega
      have hwp : IntKind.i64.wrap (p.2 + 1) = p.2 + 1 := by rw [IntKind.wrap_i64]; omega
      have hnl : ¬ p.1 < least := by omega
      obtain ⟨p1, p2⟩ := p
      simp only at *
      clear hp hy hbe h0 HJ
      go_wp2_with fail
      refine hA.mono ?_
      rintro e w2 ⟨rfl, z, rfl⟩
      obtain ⟨c0, c1⟩ := HC.out z
      have HX2 := HX.out z
      have HX2 : Hid (∃ z', ext (wr.alloc (.cells #[.int .i64 p1, .int .i64 p2] 36)) z = ext w z') := HX2
      generalize ext (wr.alloc (.cells #[.int .i64 p1, .int .i64 p2] 36)) z = w2 at *
      clear hA HC HX
      go_wp2
      go_roundw
      case rel => exact ⟨k + 1, p2 + 1, by omega, by go_num, by go_num, by omega, by omega, hid_and HX2 HNx⟩
      case measure => simp [intOf]; omega
    · have hlt' : ¬ (k : Int) < (n : Int) := by omega
      have HX := HJ.out.1
      have HX : Hid (∃ y, wr = ext w y) := HX
      go_wp2
      go_ret
      exact ⟨rfl, HX.out⟩


end Go.Proofs.YtkkmoplijicmpaeDoor

namespace Go.Proofs.YtkkmoplijicmpaeDoor
open Go.RowKit
set_option linter.unusedVariables false
set_option linter.unusedSimpArgs false

set_option maxRecDepth 100000 in
set_option maxHeartbeats 8000000 in
theorem mayBe5_ok (r : Rr) (hr : r.Ok) (a : Option Addr) (n c : Nat) (hn : r.clm.length = n) (hnc : n ≤ c) (hcc : c ≤ 9223372036854775807) (w : World) (hC : CIn w (.slice a n c) r.clm) :
    Calls Tryd.prog 90 #[.agg (rpA r n a c)] w fun e w' => e = .returned (.bool true) ∧ Below w.heap.size w w' := by
  obtain ⟨W, hW⟩ : ∃ W, w.alloc (.cells (rpA r n a c) 75) = W := ⟨_, rfl⟩
  have HWe : Hid (w.alloc (.cells (rpA r n a c) 75) = W) := hW
  have hbW : Below w.heap.size w W := by rw [← hW]; exact (Below.refl _ _).alloc (Nat.le_refl _) _
  have HBW : Hid (Below w.heap.size w W) := hbW
  have HRo : Hid (∀ V, Below W.heap.size W V → V.heap[w.heap.size]? = some (.cells (rpA r n a c) 75 (0, 0))) := fun V hV => by
    have h1 : W.heap[w.heap.size]? = some (.cells (rpA r n a c) 75 (0, 0)) := by rw [← hW]; exact al_new _ _
    exact (hV.block _ (Array.getElem?_eq_some_iff.1 h1).1).trans h1
  have hs1 : 1 ≤ r.ser ∧ r.ser ≤ 4611686018427387903 := hr.ser
  have hs2 : 0 ≤ r.chk ∧ r.chk ≤ 4611686018427387903 := hr.chk
  have q3 := fun V => bounds5_any r.low r.upp V
  rw [decide_eq_true (⟨hr.low, hr.mid, hr.upp⟩ : 0 ≤ r.low ∧ r.low < r.upp ∧ r.upp ≤ 65536)] at q3
  have hn1 : 1 ≤ n := by rw [← hn]; exact hr.some
  have hn2 : n ≤ 1000 := by rw [← hn]; exact hr.few
  have HRi : Hid (∀ x, Calls Tryd.prog 76 #[.slice a n c] (ext W x) fun e w' => e = .returned (.bool true) ∧ ∃ y, w' = ext (ext W x) y) := fun x => right_x a n c r.clm r.low r.upp _ ((hC.below hbW).below (ext_below W x)) hn hn2 hr.cls hr.upp hr.low
  obtain ⟨p, hp⟩ := get_one r.clm 0 (by omega)
  obtain ⟨z, hz⟩ := get_one r.clm (n - 1) (by omega)
  obtain ⟨g, off, rfl, _⟩ := hC.at hp
  have HG : Hid (∀ V, Below w.heap.size w V → V.cell? ⟨g, off, none⟩ = some (.int .i64 p.1) ∧ V.cell? ⟨g, off + (n - 1) * 2 + 1, none⟩ = some (.int .i64 z.2)) := fun V hV => by
    obtain ⟨g1, o1, e1, x0, _⟩ := (hC.below hV).at hp
    cases e1
    obtain ⟨g2, o2, e2, _, x3⟩ := (hC.below hV).at hz
    cases e2
    exact ⟨by simpa using x0, x3⟩
  have b1 := (clOk_at hr.cls 0 p hp).1
  have b2 := (clOk_at hr.cls (n - 1) z hz).2.2.1
  obtain ⟨m, rfl⟩ : ∃ m, n = m + 1 := ⟨n - 1, by omega⟩
  rw [Nat.add_sub_cancel] at HG
  have hs4 : (1 : Int) ≤ (m : Int) + 1 ∧ (m : Int) + 1 ≤ 1000 := ⟨by omega, by omega⟩
  have hwm : IntKind.i64.wrap ((m : Int) + 1 - 1) = (m : Int) := by rw [IntKind.wrap_i64]; omega
  have hmm : (m : Int) < (m : Int) + 1 := by omega
  have hm0 : (0 : Int) < (m : Int) + 1 := by omega
  obtain ⟨y0, y1, y2, y3, y4⟩ := (show W.cell? ⟨w.heap.size, 0, none⟩ = some (.int .i64 r.ser) ∧ W.cell? ⟨w.heap.size, 1, none⟩ = some (.int .i64 r.chk) ∧ W.cell? ⟨w.heap.size, 2, none⟩ = some (.int .i64 r.upp) ∧ W.cell? ⟨w.heap.size, 3, none⟩ = some (.int .i64 r.low) ∧ W.cell? ⟨w.heap.size, 4, none⟩ = some (.slice (some ⟨g, off, none⟩) (m + 1) c) from ⟨(cell_of_row _ _ _ _ _ _ (HRo.out W (Below.refl _ _))).trans rfl, (cell_of_row _ _ _ _ _ _ (HRo.out W (Below.refl _ _))).trans rfl, (cell_of_row _ _ _ _ _ _ (HRo.out W (Below.refl _ _))).trans rfl, (cell_of_row _ _ _ _ _ _ (HRo.out W (Below.refl _ _))).trans rfl, (cell_of_row _ _ _ _ _ _ (HRo.out W (Below.refl _ _))).trans rfl⟩)
  clear hW hbW hC hr hn hp hz hn1
  go_enter Tryd.func90, Tryd.ntmps90
  have HRi2 : Hid (∀ x, Calls Tryd.prog 76 #[.slice (some ⟨g, off, none⟩) (m + 1) c] (ext W x) fun e w' => e = .returned (.bool true) ∧ ∃ y, w' = ext (ext W x) y) := HRi.out
  have HYs : Hid (∀ V, Below W.heap.size W V → (V.cell? ⟨w.heap.size, 0, none⟩ = some (.int .i64 r.ser) ∧ V.cell? ⟨w.heap.size, 1, none⟩ = some (.int .i64 r.chk) ∧ V.cell? ⟨w.heap.size, 2, none⟩ = some (.int .i64 r.upp) ∧ V.cell? ⟨w.heap.size, 3, none⟩ = some (.int .i64 r.low) ∧ V.cell? ⟨w.heap.size, 4, none⟩ = some (.slice (some ⟨g, off, none⟩) (m + 1) c)) ∧ V.cell? ⟨g, off, none⟩ = some (.int .i64 p.1) ∧ V.cell? ⟨g, off + m * 2 + 1, none⟩ = some (.int .i64 z.2)) := fun V hV => ⟨⟨(cell_of_row _ _ _ _ _ _ (HRo.out V hV)).trans rfl, (cell_of_row _ _ _ _ _ _ (HRo.out V hV)).trans rfl, (cell_of_row _ _ _ _ _ _ (HRo.out V hV)).trans rfl, (cell_of_row _ _ _ _ _ _ (HRo.out V hV)).trans rfl, (cell_of_row _ _ _ _ _ _ (HRo.out V hV)).trans rfl⟩, HG.out V (HBW.out.trans (hV.mono HBW.out.size))⟩
  obtain ⟨x0, x1⟩ := (HYs.out W (Below.refl _ _)).2
  have HQb : ∀ x (v lo hi : Int), lo ≤ v ∧ v ≤ hi → Calls Tryd.prog 75 #[.int .i64 v, .int .i64 lo, .int .i64 hi] (ext W x) fun e w'' => e = .returned (.bool true) ∧ ∃ y, w'' = ext W y := fun x v lo hi h => by
    have q := C.between5_any v lo hi (ext W x)
    rw [decide_eq_true h] at q
    exact ext_same q
  have HQ3 : ∀ x, Calls Tryd.prog 77 #[.int .i64 r.low, .int .i64 r.upp] (ext W x) fun e w'' => e = .returned (.bool true) ∧ ∃ y, w'' = ext W y := fun x => ext_same (q3 _)
  have HQ5 : ∀ x, Calls Tryd.prog 76 #[.slice (some ⟨g, off, none⟩) (m + 1) c] (ext W x) fun e w'' => e = .returned (.bool true) ∧ ∃ y, w'' = ext W y := fun x => ext_more (HRi2.out x)
  have p0 := fun y => (HYs.out _ (ext_below W y)).1.1
  have p1 := fun y => (HYs.out _ (ext_below W y)).1.2.1
  have p2 := fun y => (HYs.out _ (ext_below W y)).1.2.2.1
  have p3 := fun y => (HYs.out _ (ext_below W y)).1.2.2.2.1
  have p4 := fun y => (HYs.out _ (ext_below W y)).1.2.2.2.2
  have p5 := fun y => (HYs.out _ (ext_below W y)).2.1
  have p6 := fun y => (HYs.out _ (ext_below W y)).2.2
  have HBE : Hid (∀ y, Below w.heap.size w (ext W y)) := fun y => HBW.out.trans ((ext_below W y).mono HBW.out.size)
  have db1 : decide (r.low ≤ p.1) = true := decide_eq_true b1
  have db2 : decide (z.2 ≤ r.upp) = true := decide_eq_true b2
  clear q3 HRi HRi2 HRo HG y0 y1 y2 y3 y4 x0 x1
  go_wp2_with fail
  rw [HWe.out]
  refine wp_region_ext (by kernel_rfl) (by kernel_rfl) ?_
  repeat (go_big_quiet_step (first
    | (go_at_call 75; exact HQb _ _ _ _ (by first | exact hs1 | exact hs2 | exact hs4))
    | (go_at_call 77; exact HQ3 _)
    | (go_at_call 76; exact HQ5 _)))
  refine wpQuiet_nil ?_
  intro w' hw'
  obtain ⟨y, hw''⟩ := hw'
  subst hw''
  go_wp2
  go_ret
  exact ⟨rfl, HBE.out y⟩

end Go.Proofs.YtkkmoplijicmpaeDoor
