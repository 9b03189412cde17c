import Derived.Test.YthbkabehjeidjaeDoorRpS1
import Derived.Deep.RegionHeld3
import Derived.BigQuiet
import Derived.Maps.AppendAt
namespace Go.Proofs.YthbkabehjeidjaeDoor
open Go.RowKit
set_option linter.unusedVariables false
set_option linter.unusedSimpArgs false

/-- Two blocks alone were written. -/
structure Kb2 (A B : Nat) (w V : World) : Prop where
  os : V.os = w.os
  tape : V.tape = w.tape
  output : V.output = w.output
  size : V.heap.size = w.heap.size
  block : ∀ g, g ≠ A → g ≠ B → V.heap[g]? = w.heap[g]?
theorem Kb2.refl (A B : Nat) (w : World) : Kb2 A B w w := ⟨rfl, rfl, rfl, rfl, fun _ _ _ => rfl⟩
theorem Kb2.set {A B : Nat} {w V : World} (h : Kb2 A B w V) (b i : Nat) (u : Value) (hb : b = A ∨ b = B) : Kb2 A B w (V.setCell ⟨b, i, none⟩ u) :=
  ⟨h.os, h.tape, h.output, by rw [← h.size]; simp, fun g h1 h2 => (Below.heap_setCell _ _ _ _ (by show g ≠ b; omega)).trans (h.block g h1 h2)⟩
theorem seg_end2 {w w3 V : World} {A b2 n c : Nat} {a : Option Addr} {l : List (Int × Int)} (hb : Below w.heap.size w w3) (hs : C.SOwn w3 b2 (.slice a n c) l) (h2 : w.heap.size + 1 + 1 < b2) (h3 : A < b2 ∧ w.heap.size ≤ A) (hl : l.length ≤ 1048576) (hk : Kb2 A (w.heap.size + 1 + 1) w3 V) : CIn V (.slice a n c) l ∧ Below w.heap.size w V :=
  ⟨cin_own (hs.blk2 fun g hg => hk.block g (by have h1 := (hs.lt g hg).1; omega) (by have h1 := (hs.lt g hg).1; omega)) hl, hk.os.trans hb.os, hk.tape.trans hb.tape, hk.output.trans hb.output, by rw [hk.size]; exact hb.size, fun g hg => (hk.block g (by omega) (by omega)).trans (hb.block g hg)⟩

set_option maxRecDepth 100000 in
set_option maxHeartbeats 8000000 in
/-- report.Segment, of a report that may be. -/
theorem segment5_ok (k : Qu) (ok : k.Ok) (r : Rr) (hr : r.Ok) (a : Option Addr) (n c : Nat) (hn : r.clm.length = n) (hnc : n ≤ c) (hcc : c ≤ 9223372036854775807) (w : World) (hC : CIn w (.slice a n c) r.clm) :
    Calls Tryd.prog 37 #[.agg #[.int .i64 k.org, .int .i64 k.num], .agg (rpA r n a c)] w fun e w' => ∃ a' c', e = .returned (.tuple #[.agg (rsC k r a' n c'), .int .i64 0]) ∧ CIn w' (.slice a' n c') r.clm ∧ Below w.heap.size w w' := by
  obtain ⟨W, hW⟩ : ∃ W, ((w.alloc (.cells #[.int .i64 k.org, .int .i64 k.num] 23)).alloc (.cells (rpA r n a c) 75)).alloc (.cells #[.int .i64 0, .int .i64 0, .int .i64 0, .slice none 0 0, .slice none 0 0, .int .i64 0, .int .i64 0, .slice none 0 0, .int .i64 0, .int .i64 0, .int .i64 0, .int .i64 0, .slice none 0 0, .int .i64 0] 81) = W := ⟨_, rfl⟩
  have HWe : Hid (_ = W) := hW
  have hbW : Below w.heap.size w W := by rw [← hW]; exact (((Below.refl _ _).alloc (Nat.le_refl _) _).alloc (by simp) _).alloc (by simp; omega) _
  have HBW : Hid (Below w.heap.size w W) := hbW
  have hz : W.heap.size = w.heap.size + 3 := by rw [← hW]; simp
  have HZ : Hid (W.heap.size = w.heap.size + 3) := hz
  have r0 : W.heap[w.heap.size]? = some (.cells #[.int .i64 k.org, .int .i64 k.num] 23 (0, 0)) := by rw [← hW]; exact al_old (al_old (al_new _ _))
  have r1 : W.heap[w.heap.size + 1]? = some (.cells (rpA r n a c) 75 (0, 0)) := by
    rw [← hW]
    have := al_new (w.alloc (.cells #[.int .i64 k.org, .int .i64 k.num] 23)) (.cells (rpA r n a c) 75)
    rw [World.size_alloc] at this
    exact al_old this
  have r2 : W.heap[w.heap.size + 1 + 1]? = some (.cells #[.int .i64 0, .int .i64 0, .int .i64 0, .slice none 0 0, .slice none 0 0, .int .i64 0, .int .i64 0, .slice none 0 0, .int .i64 0, .int .i64 0, .int .i64 0, .int .i64 0, .slice none 0 0, .int .i64 0] 81 (0, 0)) := by
    rw [← hW]
    have := al_new ((w.alloc (.cells #[.int .i64 k.org, .int .i64 k.num] 23)).alloc (.cells (rpA r n a c) 75)) (.cells #[.int .i64 0, .int .i64 0, .int .i64 0, .slice none 0 0, .slice none 0 0, .int .i64 0, .int .i64 0, .slice none 0 0, .int .i64 0, .int .i64 0, .int .i64 0, .int .i64 0, .slice none 0 0, .int .i64 0] 81)
    rw [World.size_alloc, World.size_alloc] at this
    exact this
  have HRb : Hid (∀ V, Below W.heap.size W V → (V.cell? ⟨w.heap.size, 0, none⟩ = some (.int .i64 k.org) ∧ V.cell? ⟨w.heap.size, 1, none⟩ = some (.int .i64 k.num)) ∧ (V.cell? ⟨w.heap.size + 1, 0, none⟩ = some (.int .i64 r.ser) ∧ V.cell? ⟨w.heap.size + 1, 1, none⟩ = some (.int .i64 r.chk) ∧ V.cell? ⟨w.heap.size + 1, 2, none⟩ = some (.int .i64 r.upp) ∧ V.cell? ⟨w.heap.size + 1, 3, none⟩ = some (.int .i64 r.low) ∧ V.cell? ⟨w.heap.size + 1, 4, none⟩ = some (.slice a n c)) ∧ V.heap[w.heap.size + 1 + 1]? = some (.cells #[.int .i64 0, .int .i64 0, .int .i64 0, .slice none 0 0, .slice none 0 0, .int .i64 0, .int .i64 0, .slice none 0 0, .int .i64 0, .int .i64 0, .int .i64 0, .int .i64 0, .slice none 0 0, .int .i64 0] 81 (0, 0))) := fun V hV => by
    have s0 := (hV.block _ (Array.getElem?_eq_some_iff.1 r0).1).trans r0
    have s1 := (hV.block _ (Array.getElem?_eq_some_iff.1 r1).1).trans r1
    have s2 := (hV.block _ (Array.getElem?_eq_some_iff.1 r2).1).trans r2
    exact ⟨⟨(cell_of_row _ _ _ _ _ _ s0).trans rfl, (cell_of_row _ _ _ _ _ _ s0).trans rfl⟩, ⟨(cell_of_row _ _ _ _ _ _ s1).trans rfl, (cell_of_row _ _ _ _ _ _ s1).trans rfl, (cell_of_row _ _ _ _ _ _ s1).trans rfl, (cell_of_row _ _ _ _ _ _ s1).trans rfl, (cell_of_row _ _ _ _ _ _ s1).trans rfl⟩, s2⟩
  have hS := session5_any k.org k.num W
  rw [decide_eq_true ⟨ok.org, ok.num⟩] at hS
  have HMy : Hid (∀ V, Below W.heap.size W V → Calls Tryd.prog 90 #[.agg (rpA r n a c)] V fun e w' => e = .returned (.bool true) ∧ Below V.heap.size V w') := fun V hV => mayBe5_ok r hr a n c hn hnc hcc V ((hC.below hbW).below hV)
  have HFo := fun V => form5_any k.org k.num r.ser r.chk r.upp r.low (.slice a n c) a n c rfl V
  obtain ⟨p, hp⟩ := get_one r.clm 0 hr.some
  obtain ⟨g, off, rfl, _⟩ := hC.at hp
  have HCl : Hid (∀ V, Below W.heap.size W V → Calls Tryd.prog 64 #[.slice (some ⟨g, off, none⟩) n c] V fun e w' => ∃ v, e = .returned v ∧ C.SOwn w' V.heap.size v r.clm ∧ Below V.heap.size V w') := fun V hV => clone5_some g off c n r.clm V ((hC.below hbW).below hV) hn (by have := hr.some; omega)
  have HSm : Hid (r.clm.length ≤ 1048576) := hC.small
  have HNn : Hid (r.clm.length = n) := hn
  obtain ⟨⟨s0, s1⟩, ⟨y0, y1, y2, y3, y4⟩, _⟩ := HRb.out W (Below.refl _ _)
  clear hW hbW hC hr ok hn r0 r1 r2 hz hp
  go_enter Tryd.func37, Tryd.ntmps37
  go_wp2_with fail
  rw [HWe.out]
  refine hS.mono ?_
  rintro e w1 ⟨rfl, hb1⟩
  have HB1 : Hid (Below W.heap.size W w1) := hb1
  clear s0 s1 y0 y1 y2 y3 y4 hS
  obtain ⟨⟨s0, s1⟩, ⟨y0, y1, y2, y3, y4⟩, _⟩ := HRb.out w1 hb1
  have hMy := HMy.out w1 hb1
  clear hb1
  go_wp2_with fail
  refine hMy.mono ?_
  rintro e w2 ⟨rfl, hb2⟩
  have HB2 : Hid (Below W.heap.size W w2) := HB1.out.trans (hb2.mono HB1.out.size)
  clear s0 s1 y0 y1 y2 y3 y4 hMy hb2
  obtain ⟨⟨s0, s1⟩, ⟨y0, y1, y2, y3, y4⟩, _⟩ := HRb.out w2 HB2.out
  go_wp2_with fail
  refine (HFo _).mono ?_
  rintro e w3 ⟨rfl, hb3⟩
  have HB3 : Hid (Below W.heap.size W w3) := HB2.out.trans (hb3.mono HB2.out.size)
  obtain ⟨w4, hw4⟩ : ∃ x, w3.alloc (.cells (rsC k r (some ⟨g, off, none⟩) n c) 81) = x := ⟨_, rfl⟩
  have HW4 : Hid (w3.alloc (.cells (rsC k r (some ⟨g, off, none⟩) n c) 81) = w4) := hw4
  have HB4 : Hid (Below W.heap.size W w4 ∧ w4.heap.size = w3.heap.size + 1 ∧ W.heap.size ≤ w3.heap.size) := by rw [← hw4]; exact ⟨HB3.out.alloc HB3.out.size _, by simp, HB3.out.size⟩
  have HX4 : Hid (w4.heap[w3.heap.size]? = some (.cells (rsC k r (some ⟨g, off, none⟩) n c) 81 (0, 0))) := by show _ = _; rw [← hw4]; exact al_new _ _
  clear s0 s1 y0 y1 y2 y3 y4 hb3 hw4 HFo
  obtain ⟨⟨s0, s1⟩, ⟨y0, y1, y2, y3, y4⟩, _⟩ := HRb.out w4 HB4.out.1
  have hCl := HCl.out w4 HB4.out.1
  go_upto_region 6 with fail
  rw [HW4.out]
  go_wp2_with fail
  refine hCl.mono ?_
  rintro e w5 ⟨v5, rfl, hs5, hb5⟩
  obtain ⟨a5, c5, hv5⟩ := hs5.shape
  rw [HNn.out] at hv5
  subst hv5
  have HB5 : Hid (Below W.heap.size W w5) := HB4.out.1.trans (hb5.mono HB4.out.1.size)
  have HS5 : Hid (C.SOwn w5 w4.heap.size (.slice a5 n c5) r.clm) := hs5
  have hx5 := (hb5.block w3.heap.size (Array.getElem?_eq_some_iff.1 HX4.out).1).trans HX4.out
  clear s0 s1 y0 y1 y2 y3 y4 hCl hs5
  obtain ⟨e0, e1, e2, e3, e4, e5, e6, e7, e8, e9, e10, e11, e12, e13, f12⟩ := seg_cx hx5
  obtain ⟨d0, d1, d2, d3, d4, d5, d6, d7, d8, d9, d10, d11, d12, d13, z0, z1, z2, z3, z4, z5, z6, z7, z8, z9, z10, z11, z12, z13⟩ := seg_cz (HRb.out w5 HB5.out).2.2
  have hn1 : w3.heap.size ≠ w.heap.size + 1 + 1 := by have := HB4.out; have := HZ.out; omega
  have hn2 : w.heap.size + 1 + 1 ≠ w3.heap.size := by have := HB4.out; have := HZ.out; omega
  clear hb5 hx5 HX4 HW4
  go_wp2
  refine bodyPost_ret (v := .tuple #[.agg (rsC k r a5 n c5), .int .i64 0]) (by simp [results, Tryd.results37, go_sem, d0, d1, d2, d3, d4, d5, d6, d7, d8, d9, d10, d11, d12, d13]) rfl ?_
  obtain ⟨q1, q2⟩ := seg_end2 (A := w3.heap.size) (HBW.out.trans (HB5.out.mono HBW.out.size)) HS5.out (by have := HB4.out; have := HZ.out; omega) (by have := HB4.out; have := HZ.out; omega) HSm.out (((((((((((((((((Kb2.refl _ _ _).set _ _ _ (.inl rfl)).set _ _ _ (.inr rfl)).set _ _ _ (.inr rfl)).set _ _ _ (.inr rfl)).set _ _ _ (.inr rfl)).set _ _ _ (.inr rfl)).set _ _ _ (.inr rfl)).set _ _ _ (.inr rfl)).set _ _ _ (.inr rfl)).set _ _ _ (.inr rfl)).set _ _ _ (.inr rfl)).set _ _ _ (.inr rfl)).set _ _ _ (.inr rfl)).set _ _ _ (.inr rfl)).set _ _ _ (.inr rfl)))
  exact ⟨a5, c5, rfl, q1, q2⟩

end Go.Proofs.YthbkabehjeidjaeDoor

namespace Go.Proofs.YthbkabehjeidjaeDoor
open Go.RowKit
set_option linter.unusedVariables false
set_option linter.unusedSimpArgs false

theorem btr' {a b c : World} (h : Below a.heap.size a b) (k : Below b.heap.size b c) : Below a.heap.size a c := h.trans (k.mono h.size)
theorem mk_chain {o n mtu lo up ck sr : Int} {l : List (Int × Int)} (h : (mk5 o n mtu l lo up ck sr).1 = 0) : C.IsSet l ∧ (0 ≤ lo ∧ lo < up ∧ up ≤ 65536) ∧ (C.wth l (lo, up)).length ≤ 1000000 → Qu.Ok ⟨o, n, mtu, ck, up⟩ ∧ ∃ LO LL NN, Ch ⟨o, n, mtu, ck, up⟩ lo sr (C.wth l (lo, up)) (mk5 o n mtu l lo up ck sr).2 LO LL NN := by
  intro hq
  unfold mk5 at h ⊢
  split at h
  · cases h
  · rename_i h1
    rw [if_neg h1]
    split at h
    · cases h
    · rename_i h2
      rw [if_neg h2]
      split at h
      · cases h
      · rename_i h3
        rw [if_neg h3]
        split at h
        · cases h
        · rename_i h4
          rw [if_neg h4]
          have q1 : ((1 ≤ o ∧ o ≤ 4611686018427387903) ∧ (1 ≤ n ∧ n ≤ 4611686018427387902)) ∧ (80 ≤ mtu ∧ mtu ≤ 4096) := by simp [inS] at h1; omega
          have q4 : (0 ≤ ck ∧ ck ≤ 4611686018427387903) ∧ (1 ≤ sr ∧ sr ≤ 4611686018427387903) := by simp [inK] at h4; omega
          have ok : Qu.Ok ⟨o, n, mtu, ck, up⟩ := ⟨q1.1.1, q1.1.2, q1.2, q4.1, hq.2.1.2.2⟩
          refine ⟨ok, ?_⟩
          show ∃ LO LL NN, Ch _ _ _ _ (dlL _) LO LL NN
          cases hd : dl5 ⟨o, n, mtu, ck, up⟩ ((C.wth l (lo, up)).length + 1) lo sr (C.wth l (lo, up)) with
          | none => rw [hd] at h; cases h
          | some rs => exact dl_chain ok _ hd ⟨hq.2.1.1, q4.2.1, wth_ok hq.1 hq.2.1.1 hq.2.1.2.2⟩
theorem mk_set {o n mtu lo up ck sr : Int} {l : List (Int × Int)} (h : (mk5 o n mtu l lo up ck sr).1 = 0) : C.IsSet l ∧ (0 ≤ lo ∧ lo < up ∧ up ≤ 65536) := by
  unfold mk5 at h
  split at h
  · cases h
  · split at h
    · cases h
    · rename_i h2
      split at h
      · cases h
      · rename_i h3
        exact ⟨C.setB_iff.mp (by simpa using h2), by simpa [inU] using h3⟩
/-- A report of a list, in a later world. -/
theorem rep_at {w V : World} {base N c g : Nat} {os : List R5o} {j : Nat} {o : R5o} (h : R5 w base (.slice (some ⟨g, 0, none⟩) N c) os) (hV : Below w.heap.size w V) (hl : os.length = N) (ho : os[j]? = some o) : (V.cell? ⟨g, j * 5, none⟩ = some (.int .i64 o.r.ser) ∧ V.cell? ⟨g, j * 5 + 1, none⟩ = some (.int .i64 o.r.chk) ∧ V.cell? ⟨g, j * 5 + 2, none⟩ = some (.int .i64 o.r.upp) ∧ V.cell? ⟨g, j * 5 + 3, none⟩ = some (.int .i64 o.r.low) ∧ V.cell? ⟨g, j * 5 + 4, none⟩ = some (.slice o.a o.r.clm.length o.c)) ∧ C.SOwn V base (.slice o.a o.r.clm.length o.c) o.r.clm := by
  subst hl
  have h2 := h.below hV
  have hj : j < os.length := (List.getElem?_eq_some_iff.mp ho).1
  exact ⟨⟨(h2.row.cellAt _ (by omega)).trans (rpC_at ho 0 _ rfl), (h2.row.cellAt _ (by omega)).trans (rpC_at ho 1 _ rfl), (h2.row.cellAt _ (by omega)).trans (rpC_at ho 2 _ rfl), (h2.row.cellAt _ (by omega)).trans (rpC_at ho 3 _ rfl), (h2.row.cellAt _ (by omega)).trans (rpC_at ho 4 _ rfl)⟩, h2.own j o ho⟩
theorem rep_g {w : World} {base N c : Nat} {a : Option Addr} {os : List R5o} (h : R5 w base (.slice a N c) os) (hl : os.length = N) (hN : 0 < N) : ∃ g, a = some ⟨g, 0, none⟩ := by
  obtain ⟨g, cap, hv2⟩ := C.own_some h.row (by omega)
  simp only [Value.slice.injEq] at hv2
  exact ⟨g, hv2.1⟩
theorem bl_setRow {b g : Nat} {w W : World} (h : Below b w W) (hg : b ≤ g) (cs : Array Value) : Below b w (W.setRow g cs) := by
  obtain ⟨a1, a2, a3, a4, a5⟩ := h
  refine ⟨a1, a2, a3, by simpa [World.setRow] using a4, fun j hj => ?_⟩
  rw [← a5 j hj]
  simp only [World.setRow]
  rw [Array.getElem?_modify, if_neg (fun e => by omega)]
theorem size_sg6 : (Tryd.prog.info? 81).map (·.size) = some 14 := by kernel_rfl
/-- What a whole struct's store wants. -/
def Stor6 (P : Program) (ty : TypeId) (w : World) (vx vy : Value) : Prop := ∃ (g : Nat) (cells old : Array Value) (t : TypeId), vx = .pointer (some ⟨g, 0, none⟩) ∧ vy = .agg cells ∧ w.heap[g]? = some (.cells old t (0, 0)) ∧ old.size = cells.size ∧ (P.info? ty).map (·.size) = some cells.size ∧ cells.all (·.oneCell') = true
def pBlk6 : Value → Nat
  | .pointer (some a) => a.block
  | _ => 0
def pAgg6 : Value → Array Value
  | .agg c => c
  | _ => #[]
theorem pBlk6_ptr (a : Addr) : pBlk6 (.pointer (some a)) = a.block := rfl
theorem pAgg6_agg (c : Array Value) : pAgg6 (.agg c) = c := rfl
/-- A store of a whole struct into a block of its own: one step, wherever it stands. -/
theorem wp_store6 {P : Program} {ty tp : TypeId} {x y : Operand} {d : Option Tmp} {ps : String} {af : Array Edge} {a : Act} {w : World} {K : Act → World → Prop} {Q : Exit → Act → World → Prop}
    (hs : Stor6 P ty w (a.eval x) (a.eval y)) :
    Oper.wp P { dst := d, op := .store ty x y, type := tp, pos := ps, after := af, guard := none } a w K Q = K (a.put d undef) (w.setRow (pBlk6 (a.eval x)) (pAgg6 (a.eval y))) := by
  obtain ⟨g, cells, old, t, hx, hy, hg, ho, hi, h1⟩ := hs
  have hr := run_storeVar_row (P := P) w g t ty old cells hg hi ho h1
  unfold Oper.wp execOp
  simp only [hx, hy, pBlk6_ptr, pAgg6_agg, Instr.storeAt, Instr.sureAddr, Sem.run_bind, Sem.run_pure, Result.andThen_ok, hr]
  rfl
attribute [local go_sem ↓] wp_store6
attribute [local go_sem] pBlk6_ptr pAgg6_agg
theorem setRow6 {W : World} {g : Nat} {old : Array Value} {t : TypeId} (h : W.heap[g]? = some (.cells old t (0, 0))) (cs : Array Value) : (W.setRow g cs).heap[g]? = some (.cells cs t (0, 0)) := setRow_heap _ _ _ _ _ _ h
theorem ask_cells6 {V : World} {b : Nat} {o n m x y z u : Int} (h : V.heap[b]? = some (.cells #[.int .i64 o, .int .i64 n, .int .i64 m, .int .i64 x, .int .i64 y, .int .i64 z, .int .i64 u] 60 (0, 0))) :
    V.cell? ⟨b, 0, none⟩ = some (.int .i64 o) ∧ V.cell? ⟨b, 1, none⟩ = some (.int .i64 n) ∧ V.cell? ⟨b, 2, none⟩ = some (.int .i64 m) ∧ V.cell? ⟨b, 3, none⟩ = some (.int .i64 x) ∧ V.cell? ⟨b, 4, none⟩ = some (.int .i64 y) ∧ V.cell? ⟨b, 5, none⟩ = some (.int .i64 z) ∧ V.cell? ⟨b, 6, none⟩ = some (.int .i64 u) :=
  ⟨(cell_of_row _ _ _ _ _ _ h).trans rfl, (cell_of_row _ _ _ _ _ _ h).trans rfl, (cell_of_row _ _ _ _ _ _ h).trans rfl, (cell_of_row _ _ _ _ _ _ h).trans rfl, (cell_of_row _ _ _ _ _ _ h).trans rfl, (cell_of_row _ _ _ _ _ _ h).trans rfl, (cell_of_row _ _ _ _ _ _ h).trans rfl⟩
theorem sg_cells {W : World} {g : Nat} {v0 v1 v2 v3 v4 v5 v6 v7 v8 v9 v10 v11 v12 v13 : Value} {t : TypeId} (h : W.heap[g]? = some (.cells #[v0, v1, v2, v3, v4, v5, v6, v7, v8, v9, v10, v11, v12, v13] t (0, 0))) :
    W.cell? ⟨g, 0, none⟩ = some v0 ∧ W.cell? ⟨g, 1, none⟩ = some v1 ∧ W.cell? ⟨g, 2, none⟩ = some v2 ∧ W.cell? ⟨g, 3, none⟩ = some v3 ∧ W.cell? ⟨g, 4, none⟩ = some v4 ∧ W.cell? ⟨g, 5, none⟩ = some v5 ∧ W.cell? ⟨g, 6, none⟩ = some v6 ∧ W.cell? ⟨g, 7, none⟩ = some v7 ∧ W.cell? ⟨g, 8, none⟩ = some v8 ∧ W.cell? ⟨g, 9, none⟩ = some v9 ∧ W.cell? ⟨g, 10, none⟩ = some v10 ∧ W.cell? ⟨g, 11, none⟩ = some v11 ∧ W.cell? ⟨g, 12, none⟩ = some v12 ∧ W.cell? ⟨g, 13, none⟩ = some v13 :=
  ⟨(cell_of_row _ _ _ _ _ _ h).trans rfl, (cell_of_row _ _ _ _ _ _ h).trans rfl, (cell_of_row _ _ _ _ _ _ h).trans rfl, (cell_of_row _ _ _ _ _ _ h).trans rfl, (cell_of_row _ _ _ _ _ _ h).trans rfl, (cell_of_row _ _ _ _ _ _ h).trans rfl, (cell_of_row _ _ _ _ _ _ h).trans rfl, (cell_of_row _ _ _ _ _ _ h).trans rfl, (cell_of_row _ _ _ _ _ _ h).trans rfl, (cell_of_row _ _ _ _ _ _ h).trans rfl, (cell_of_row _ _ _ _ _ _ h).trans rfl, (cell_of_row _ _ _ _ _ _ h).trans rfl, (cell_of_row _ _ _ _ _ _ h).trans rfl, (cell_of_row _ _ _ _ _ _ h).trans rfl⟩
theorem zer6 {k : Nat} {v : Int} (h : (#[.int .i64 0, .int .i64 0, .int .i64 0, .slice none 0 0, .slice none 0 0, .int .i64 0, .int .i64 0, .slice none 0 0, .int .i64 0, .int .i64 0, .int .i64 0, .int .i64 0, .slice none 0 0, .int .i64 0] : Array Value)[k]? = some (.int .i64 v)) : v = 0 := by
  have := Array.mem_of_getElem? h
  simp at this
  exact this
/-- Claims do not lie in a block of noughts. -/
theorem cin_zero {x : World} {b : Nat} {v : Value} {l : List (Int × Int)} {t : TypeId} (h : CIn x v l) (hz : x.heap[b]? = some (.cells #[.int .i64 0, .int .i64 0, .int .i64 0, .slice none 0 0, .slice none 0 0, .int .i64 0, .int .i64 0, .slice none 0 0, .int .i64 0, .int .i64 0, .int .i64 0, .int .i64 0, .slice none 0 0, .int .i64 0] t (0, 0))) (hs : ∀ p ∈ l, p.1 < p.2) (cs : Array Value) : CIn (x.setRow b cs) v l := by
  obtain ⟨⟨a, c, hv, h2⟩, hm⟩ := h
  refine ⟨⟨a, c, hv, ?_⟩, hm⟩
  rcases h2 with h2 | ⟨g, off, ha, hc⟩
  · exact .inl h2
  · refine .inr ⟨g, off, ha, fun i p hp => ?_⟩
    obtain ⟨c1, c2⟩ := hc i p hp
    have hlt := hs p (List.mem_of_getElem? hp)
    by_cases hgb : g = b
    · subst hgb
      rw [cell_of_row _ _ _ _ _ _ hz] at c1 c2
      have e1 := zer6 c1
      have e2 := zer6 c2
      omega
    · have e : (x.setRow b cs).heap[g]? = x.heap[g]? := by
        simp only [World.setRow]
        rw [Array.getElem?_modify, if_neg (fun e => hgb e.symm)]
      constructor
      · simp only [World.cell?] at c1 ⊢; rw [e]; exact c1
      · simp only [World.cell?] at c2 ⊢; rw [e]; exact c2
theorem cl_lt {u : Int} : ∀ {l : List (Int × Int)} {lo : Int}, clOk u lo l = true → ∀ p ∈ l, p.1 < p.2
  | [], _, _, _, h => by cases h
  | p :: r, lo, h, x, hx => by
    simp only [clOk, Bool.and_eq_true, decide_eq_true_eq] at h
    rcases List.mem_cons.mp hx with rfl | hx
    · exact h.2.1
    · exact cl_lt h.2.2.2 x hx
theorem lt_ok {r : Rr} (h : r.Ok) : ∀ p ∈ r.clm, p.1 < p.2 := cl_lt h.cls
theorem one_sp (l : List (Int × Int)) : ∀ u ∈ l.flatMap C.spc, u.oneCell' = true := by
  intro v hv; obtain ⟨p, _, hp⟩ := List.mem_flatMap.mp hv; simp [C.spc] at hp; rcases hp with rfl | rfl <;> rfl
theorem lit2 (W : World) (x0 x1 : Value) : ∀ j u, [x0, x1][j]? = some u → (W.alloc (.cells #[x0, x1] 36)).cell? ((⟨W.heap.size, 0, none⟩ : Addr).add j) = some u := by
  intro j u hj
  rw [add_n5, Nat.zero_add, cell_of_row _ W.heap.size j _ _ _ (al_new W _), ← hj, ← Array.getElem?_toList]
theorem rw5 {W : World} {g : Nat} {v0 v1 v2 v3 v4 : Value} {t : TypeId} (h : W.heap[g]? = some (.cells #[v0, v1, v2, v3, v4] t (0, 0))) : W.cell? ⟨g, 0, none⟩ = some v0 ∧ W.cell? ⟨g, 1, none⟩ = some v1 ∧ W.cell? ⟨g, 2, none⟩ = some v2 ∧ W.cell? ⟨g, 3, none⟩ = some v3 ∧ W.cell? ⟨g, 4, none⟩ = some v4 :=
  ⟨(cell_of_row _ _ _ _ _ _ h).trans rfl, (cell_of_row _ _ _ _ _ _ h).trans rfl, (cell_of_row _ _ _ _ _ _ h).trans rfl, (cell_of_row _ _ _ _ _ _ h).trans rfl, (cell_of_row _ _ _ _ _ _ h).trans rfl⟩
theorem own_cap {w : World} {base n c : Nat} {a : Option Addr} {l : List (Int × Int)} (h : C.SOwn w base (.slice a n c) l) (hl : l.length ≤ 1000000) : n ≤ c ∧ c ≤ 9223372036854775807 := by
  obtain ⟨a', c', hv, _, h1, h2⟩ := (h.ls (by omega)).shape
  simp only [Value.slice.injEq] at hv
  obtain ⟨_, rfl, rfl⟩ := hv
  exact ⟨h1, h2⟩

end Go.Proofs.YthbkabehjeidjaeDoor
