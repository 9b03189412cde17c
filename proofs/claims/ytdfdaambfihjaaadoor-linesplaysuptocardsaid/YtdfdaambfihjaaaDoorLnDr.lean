import Derived.Test.YtdfdaambfihjaaaDoorLnM
import Derived.Test.YtdfdaambfihjaaaDoorBody
import Derived.BigQuiet
namespace Go.Proofs.YtdfdaambfihjaaaDoor.L
open Go.RowKit
set_option linter.unusedVariables false
set_option linter.unusedSimpArgs false

theorem own_shrink {w : World} {base n m cap g sz : Nat} {e : TypeId} {xs : List Value} (h : w.ownsRow base e sz (.slice (some ⟨g, 0, none⟩) n cap) n xs) (hm : m ≤ n) : w.ownsRow base e sz (.slice (some ⟨g, 0, none⟩) m cap) m (xs.take (m * sz)) := by
  obtain ⟨h1, ⟨e1, _⟩ | ⟨g', cap', cur, e1, e2, e3, e4, e5, e6, e7⟩⟩ := h
  · cases e1
  · simp only [Value.slice.injEq, Option.some.injEq, Addr.mk.injEq] at e1
    obtain ⟨⟨rfl, _⟩, _, rfl⟩ := e1
    have hms : m * sz ≤ n * sz := Nat.mul_le_mul_right _ hm
    refine ⟨by rw [List.length_take, h1]; omega, .inr ⟨g, cap, cur, rfl, e2, e3, by omega, e5, e6, ?_⟩⟩
    rw [← e7, List.take_take]
    congr 1
    omega
theorem index_nil (w : World) (bs ba : Nat) : Calls Tryd.prog 64 #[.slice none 0 0, fnM bs ba] w fun e w' => e = .returned (.int .i64 (-1)) ∧ Below w.heap.size w w' := by
  go_enter Tryd.func64, Tryd.ntmps64
  go_wp2_with fail
  go_loopw [8] (fun i wr => i = .int .i64 0 ∧ Below w.heap.size w wr) (fun i _ => 0)
  case atStart => exact ⟨rfl, Below.refl _ _⟩
  case round =>
    obtain ⟨rfl, hb⟩ := hrel
    go_wp2
    go_ret
    exact ⟨rfl, hb⟩
theorem delf_nil (w : World) (bs ba : Nat) : Calls Tryd.prog 57 #[.slice none 0 0, fnM bs ba] w fun e w' => e = .returned (.slice none 0 0) ∧ Below w.heap.size w w' := by
  have hx := index_nil w bs ba
  go_enter Tryd.func57, Tryd.ntmps57
  go_wp2_with fail
  refine hx.mono ?_
  rintro e w1 ⟨rfl, hb⟩
  go_wp2
  go_ret
  exact ⟨rfl, hb⟩

/-- What drop does. -/
structure QD (w w' : World) (x o k : Nat) (v v' : Value) (cs : Array Value) (t : TypeId) (K : List Sv) (f' : Nat) (Z' : List Value) : Prop where
  len : Z'.length = f' * 14
  box : w'.heap[x]? = some (.cells ((cs.setIfInBounds o v').setIfInBounds (o + 1) (.int .i64 f')) t (0, 0))
  row : w'.ownsRow 0 37 14 v' (f' + k) (Z' ++ seg K)
  atv : ∀ g, v'.ownBlock = some g → v.ownBlock = some g ∨ w.heap.size ≤ g
  kl : Kl (fun g => g = x ∨ v.ownBlock = some g) w w'

set_option maxRecDepth 100000 in
set_option maxHeartbeats 4000000 in
theorem qdrop_any (w : World) (x o f m bs ba : Nat) (v : Value) (Z : List Value) (L : List Sv) (S1 S2 : Int) (all : Bool) (cs : Array Value) (t : TypeId) (hb : w.heap[x]? = some (.cells cs t (0, 0))) (ht : 37 ≠ t) (hv : cs[o]? = some v) (hf : cs[o + 1]? = some (.int .i64 f)) (hZ : Z.length = f * 14) (hr : w.ownsRow 0 37 14 v (f + m) (Z ++ seg L)) (hm : L.length = m) (hone : ∀ x ∈ L, x.Sl) (hn : f + m ≤ 68719476736)
    (k0 : w.cell? ⟨bs, 0, none⟩ = some (.int .i64 S1)) (k1 : w.cell? ⟨bs, 1, none⟩ = some (.int .i64 S2)) (k2 : w.cell? ⟨ba, 0, none⟩ = some (.bool all)) (hbs : v.ownBlock ≠ some bs) (hba : v.ownBlock ≠ some ba) (hbx : bs ≠ x) (hax : ba ≠ x) :
    Calls Tryd.prog 33 #[.pointer (some ⟨x, o, none⟩), fnM bs ba] w fun e w' => e = .returned (.int .i64 ((m - (kp S1 S2 all L).length : Nat) : Int)) ∧ ∃ v' f' Z', f' ≤ f ∧ QD w w' x o (kp S1 S2 all L).length v v' cs t (kp S1 S2 all L) f' Z' := by
  have hxl := (Array.getElem?_eq_some_iff.1 hb).1
  have c0 : w.cell? ⟨x, o, none⟩ = some v := (cell_of_row _ _ _ _ _ _ hb).trans hv
  have c1 : w.cell? ⟨x, o + 1, none⟩ = some (.int .i64 f) := (cell_of_row _ _ _ _ _ _ hb).trans hf
  have hkm : (kp S1 S2 all L).length ≤ m := by rw [← hm]; exact List.length_filter_le _ _
  have ho1 : o + 1 < cs.size := (Array.getElem?_eq_some_iff.1 hf).1
  have hnx : v.ownBlock ≠ some x := own_hp hr hb ht
  have hr0 := hr
  obtain ⟨_, ⟨rfl, h0⟩ | ⟨g, cap, cur, rfl, _, hg, hnc, hcm, hcz, hcur⟩⟩ := hr0
  · obtain rfl : f = 0 := by omega
    obtain rfl : m = 0 := by omega
    obtain rfl : L = [] := List.eq_nil_of_length_eq_zero hm
    obtain rfl : Z = [] := List.eq_nil_of_length_eq_zero (by omega)
    have hco := count_any w x o 0 0 0 none c0 c1 (by omega) (by omega)
    have HB : Hid (w.heap[x]? = some (.cells cs t (0, 0)) ∧ x < w.heap.size ∧ cs[o]? = some (.slice none 0 0) ∧ cs[o + 1]? = some (.int .i64 (0 : Nat))) := ⟨hb, hxl, hv, hf⟩
    have hk0 : kp S1 S2 all [] = [] := rfl
    rw [hk0]
    clear hb hv hf hr hnx hZ hxl k0 k1 k2 hbs hba hbx hax hone hkm hk0
    go_enter Tryd.func33, Tryd.ntmps33
    go_wp2_with fail
    refine hco.mono ?_
    rintro e w1 ⟨rfl, hb1⟩
    have c01 := cell_below c0 hb1
    have c11 := cell_below c1 hb1
    have HC : Hid (w1.cell? ⟨x, o, none⟩ = some (.slice none 0 0) ∧ w1.cell? ⟨x, o + 1, none⟩ = some (.int .i64 (0 : Nat))) := ⟨c01, c11⟩
    have hd := delf_nil w1.drew bs ba
    have HB1 : Hid (Below w.heap.size w w1) := hb1
    clear c0 c1 hb1 hco
    go_wp2_with fail
    go_region_held3 (fun V => V.cell? ⟨x, o, none⟩ = some (.slice none 0 0) ∧ V.cell? ⟨x, o + 1, none⟩ = some (.int .i64 (0 : Nat)))
      (first | exact HC.out | exact HU.out)
      (first
        | (go_at_call 57
           refine hd.mono ?_
           rintro e U ⟨rfl, hbU⟩
           have HU : Hid (U.cell? ⟨x, o, none⟩ = some (.slice none 0 0) ∧ U.cell? ⟨x, o + 1, none⟩ = some (.int .i64 (0 : Nat))) := ⟨cell_below (w := w1.drew) HC.out.1 hbU, cell_below (w := w1.drew) HC.out.2 hbU⟩
           have HBU : Hid (Below w1.heap.size w1 U) := ⟨hbU.os, hbU.tape, hbU.output, hbU.size, hbU.block⟩
           clear hbU))
    all_goals (
      go_wp2
      go_ret
      have bU : Below w.heap.size w U := HB1.out.trans (HBU.out.mono HB1.out.size)
      refine ⟨by simp, .slice none 0 0, 0, [], by omega, rfl, ?_, World.ownsRow_nil _ _ _ _, fun k hk => (by cases hk), Kl.of_below bU⟩
      rw [set_self HB.out.2.2.1, set_self HB.out.2.2.2]
      exact (bU.block x HB.out.2.1).trans HB.out.1)
  · obtain ⟨K, hK⟩ : ∃ K, kp S1 S2 all L = K := ⟨_, rfl⟩
    obtain ⟨k, hk⟩ : ∃ k, K.length = k := ⟨_, rfl⟩
    obtain ⟨Q, hQ⟩ : ∃ Q, f + m = Q := ⟨_, rfl⟩
    rw [hK, hk] at hkm ⊢
    have hone' : ∀ u ∈ seg K, u.oneCell' = true := seg_one (fun y hy => (hone y (by rw [← hK] at hy; exact (List.mem_filter.mp hy).1)).one)
    have hgx : g ≠ x := fun e => hnx (by rw [← e]; rfl)
    have hgb : bs ≠ g := fun e => hbs (by rw [e]; rfl)
    have hga : ba ≠ g := fun e => hba (by rw [e]; rfl)
    rw [hQ] at c0 hnc
    have hqm : Q - f = m := by omega
    have hco := count_any w x o Q cap f (some ⟨g, 0, none⟩) c0 c1 (by omega) (by omega)
    rw [hqm] at hco
    obtain ⟨oo, hoo⟩ : ∃ oo, (if cap = f then some (⟨g, 0, none⟩ : Addr) else some ⟨g, f * 14, none⟩) = some ⟨g, oo, none⟩ := by split; exact ⟨_, rfl⟩; exact ⟨_, rfl⟩
    have hoo2 : 0 < m → oo = f * 14 := fun h => by rw [if_neg (by omega)] at hoo; simp at hoo; omega
    have HB : Hid (w.heap[x]? = some (.cells cs t (0, 0)) ∧ x < w.heap.size ∧ g ≠ x ∧ cs[o]? = some (.slice (some ⟨g, 0, none⟩) Q cap) ∧ cs[o + 1]? = some (.int .i64 f)) := ⟨hb, hxl, hgx, by rw [← hQ]; exact hv, hf⟩
    have hd : ∀ w1, Below w.heap.size w w1 → Calls Tryd.prog 57 #[.slice (some ⟨g, oo, none⟩) m (cap - f), fnM bs ba] w1 fun e w' => ∃ T, e = .returned (.slice (some ⟨g, oo, none⟩) k (cap - f)) ∧ w'.ownsRow 0 37 14 (.slice (some ⟨g, 0, none⟩) Q cap) Q (Z ++ (seg K ++ T)) ∧ Kl (fun k => k = g) w1 w' := fun w1 h1 => by
      have := delf_any w1 g f m cap oo bs ba Z L S1 S2 all (own_blk hr (fun k hk => h1.block k (hr.lt k hk).2)) hZ hm hn hoo2 hone (cell_below k0 h1) (cell_below k1 h1) (cell_below k2 h1) hgb hga
      rw [hK, hk, hQ] at this
      exact this
    have HD : Hid (∀ w1, Below w.heap.size w w1 → Calls Tryd.prog 57 #[.slice (some ⟨g, oo, none⟩) m (cap - f), fnM bs ba] w1 fun e w' => ∃ T, e = .returned (.slice (some ⟨g, oo, none⟩) k (cap - f)) ∧ w'.ownsRow 0 37 14 (.slice (some ⟨g, 0, none⟩) Q cap) Q (Z ++ (seg K ++ T)) ∧ Kl (fun k => k = g) w1 w') := hd
    have HL : Hid (Z.length = f * 14 ∧ K.length = k ∧ f + m = Q ∧ ∀ u ∈ seg K, u.oneCell' = true) := ⟨hZ, hk, hQ, hone'⟩
    have hfq : (f : Int) ≤ (Q : Int) := by omega
    have hfc : (f : Int) ≤ (cap : Int) := by omega
    have hf0 : 0 ≤ (f : Int) := by omega
    obtain ⟨r, hre⟩ : ∃ r, m - k = r := ⟨_, rfl⟩
    have hwr : (m : Int) - (k : Int) = (r : Int) := by omega
    obtain ⟨F, hF⟩ : ∃ F, f + k = F := ⟨_, rfl⟩
    have hwF : (f : Int) + (k : Int) = (F : Int) := by omega
    have hF0 : 0 ≤ (F : Int) := by omega
    have hFc : (F : Int) ≤ (cap : Int) := by omega
    have HF : Hid (f + k = F ∧ F ≤ Q) := ⟨hF, by omega⟩
    have HQn : Hid (Q ≤ 68719476736) := by show Q ≤ _; omega
    have hwb : r ≤ 68719476736 := by omega
    have hFb : F ≤ 68719476736 := by omega
    rw [hQ, hre]
    clear hb hv hf hr hnx hZ hxl k0 k1 k2 hbs hba hbx hax hone hK hk hone' hgx hgb hga hd hoo2 hg hcz hcur hm hF
    go_enter Tryd.func33, Tryd.ntmps33
    go_wp2_with fail
    refine hco.mono ?_
    rintro e w1 ⟨rfl, hb1⟩
    have c01 := cell_below c0 hb1
    have c11 := cell_below c1 hb1
    have HC : Hid (w1.cell? ⟨x, o, none⟩ = some (.slice (some ⟨g, 0, none⟩) Q cap) ∧ w1.cell? ⟨x, o + 1, none⟩ = some (.int .i64 f)) := ⟨c01, c11⟩
    have HB1 : Hid (Below w.heap.size w w1) := hb1
    have hdd := HD.out w1.drew ⟨hb1.os, hb1.tape, hb1.output, hb1.size, hb1.block⟩
    clear c0 c1 hb1 hco
    go_wp2_with fail
    go_region_held3 (fun V => V.cell? ⟨x, o, none⟩ = some (.slice (some ⟨g, 0, none⟩) Q cap) ∧ V.cell? ⟨x, o + 1, none⟩ = some (.int .i64 f))
      (first | exact HC.out | exact HU.out)
      (first
        | (go_at_call 57
           refine hdd.mono ?_
           rintro e U ⟨T, rfl, hrU, hkU⟩
           have HU : Hid (U.cell? ⟨x, o, none⟩ = some (.slice (some ⟨g, 0, none⟩) Q cap) ∧ U.cell? ⟨x, o + 1, none⟩ = some (.int .i64 f)) := ⟨hkU.cell (w := w1.drew) HC.out.1 (fun e => HB.out.2.2.1 e.symm), hkU.cell (w := w1.drew) HC.out.2 (fun e => HB.out.2.2.1 e.symm)⟩
           have HKU : Hid (Kl (fun k => k = g) w U ∧ U.ownsRow 0 37 14 (.slice (some ⟨g, 0, none⟩) Q cap) Q (Z ++ (seg K ++ T)) ∧ U.heap[x]? = some (.cells cs t (0, 0))) := ⟨(Kl.of_below (S := fun k => k = g) HB1.out).then (S' := fun k => k = g) ⟨hkU.os, hkU.tape, hkU.output, hkU.size, hkU.block⟩ (fun _ _ e => e), hrU, (hkU.block x (Nat.lt_of_lt_of_le HB.out.2.1 HB1.out.size) (fun e => HB.out.2.2.1 e.symm)).trans ((HB1.out.block x HB.out.2.1).trans HB.out.1)⟩
           clear hrU hkU))
    all_goals (
      obtain ⟨d0, d1⟩ := HU.out
      by_cases hz : r = 0
      · subst hz
        go_wp2
        go_ret
        obtain ⟨h1, h2, h3⟩ := HKU.out
        have hl := HL.out
        have hT : T = [] := List.eq_nil_of_length_eq_zero (by have := h2.1; simp only [List.length_append, seg_len, hl.1, hl.2.1] at this; omega)
        subst hT
        refine ⟨by first | rfl | simp, .slice (some ⟨g, 0, none⟩) Q cap, f, Z, Nat.le_refl _, hl.1, ?_, ?_, fun k hk => .inl hk, h1.mono (fun q _ e => .inr (by rw [e]; rfl))⟩
        · rw [set_self HB.out.2.2.2.1, set_self HB.out.2.2.2.2]; exact h3
        · rw [List.append_nil] at h2
          rw [show f + k = Q by omega]; exact h2
      · have hr0 : (0 : Int) < (r : Int) := by omega
        have fz : U.frozen? ⟨x, o, none⟩ = false := frozen_of_row _ _ _ _ _ HKU.out.2.2
        go_wp2_with fail
        go_region
        all_goals (
          obtain ⟨W, hW⟩ : ∃ W, (U.setCell ⟨x, o, none⟩ (.slice (some ⟨g, 0, none⟩) F cap)).drew = W := ⟨_, rfl⟩
          have hp : Calls Tryd.prog 55 #[.pointer (some ⟨x, o, none⟩)] W fun e w' => (∃ u, e = .returned u) ∧ ∃ v', QD w w' x o k (.slice (some ⟨g, 0, none⟩) Q cap) v' cs t K 0 [] := by
            obtain ⟨h1, h2, h3⟩ := HKU.out
            have hl := HL.out
            have hbW : W.heap[x]? = some (.cells (cs.setIfInBounds o (.slice (some ⟨g, 0, none⟩) F cap)) t (0, 0)) := by rw [← hW]; exact heap_setCell_same U x o _ _ _ h3
            have hs := own_shrink h2 HF.out.2
            have hlen : (Z ++ seg K).length = F * 14 := by rw [List.length_append, hl.1, seg_len, hl.2.1, ← HF.out.1]; omega
            rw [← List.append_assoc, List.take_append_of_le_length (by omega), List.take_of_length_le (by omega)] at hs
            have hsW : W.ownsRow 0 37 14 (.slice (some ⟨g, 0, none⟩) F cap) F (Z ++ seg K) := own_blk hs (fun q hq => by rw [← hW]; exact heap_setCell_other U ⟨x, o, none⟩ q _ (fun e => HB.out.2.2.1 (by simp only [Value.ownBlock, Option.some.injEq] at hq; rw [hq]; exact e)))
            have kW : Kl (fun q => q = x ∨ (Value.slice (some ⟨g, 0, none⟩) Q cap).ownBlock = some q) w W := by
              rw [← hW]
              have h5 := (h1.mono (S' := fun q => q = x ∨ (Value.slice (some ⟨g, 0, none⟩) Q cap).ownBlock = some q) (fun q _ e => .inr (by rw [e]; rfl))).grown (grown_set U x o (.slice (some ⟨g, 0, none⟩) F cap)) (fun q hq => .inl (.inl (by simpa using hq.symm)))
              exact ⟨h5.os, h5.tape, h5.output, h5.size, h5.block⟩
            have := qpack_any W x o f k (.slice (some ⟨g, 0, none⟩) F cap) Z (seg K) _ t hbW ht (by rw [Array.getElem?_setIfInBounds_self_of_lt (by omega)]) (by rw [Array.getElem?_setIfInBounds_ne (by omega)]; exact HB.out.2.2.2.2) hl.1 (by rw [HF.out.1]; exact hsW) hl.2.2.2 (by have := HQn.out; have := HF.out; omega)
            refine this.mono ?_
            rintro e w' ⟨hu, v', q1, q2, q3, q4⟩
            refine ⟨hu, v', rfl, ?_, by rw [Nat.zero_add]; exact q2, fun q hq => ?_, kW.then q4 (fun q _ e => e)⟩
            · rw [q1]
              congr 2
              rw [Array.setIfInBounds_setIfInBounds]
            · rcases q3 q hq with e | e
              · exact .inl e
              · exact .inr (Nat.le_trans kW.size e)
          go_wp2_with fail
          first | rw [hW] | skip
          refine hp.mono ?_
          rintro e w' ⟨⟨u, rfl⟩, v', hq⟩
          have HQ : Hid (QD w w' x o k (.slice (some ⟨g, 0, none⟩) Q cap) v' cs t K 0 []) := hq
          clear hq hp hW
          go_wp2
          go_ret
          exact ⟨by first | rfl | simp, _, 0, [], by omega, HQ.out⟩))

end Go.Proofs.YtdfdaambfihjaaaDoor.L

namespace Go.Proofs.YtdfdaambfihjaaaDoor.L
open Go.RowKit
set_option linter.unusedVariables false
set_option linter.unusedSimpArgs false

/-! ## A line: three queues in one block -/
structure Qd where
  v : Value
  f : Nat
  Z : List Value
  L : List Sv
structure Qk (w : World) (q : Qd) (M : Nat) : Prop where
  len : q.Z.length = q.f * 14
  row : w.ownsRow 0 37 14 q.v (q.f + q.L.length) (q.Z ++ seg q.L)
  sl : ∀ y ∈ q.L, y.Sl
  small : q.f + q.L.length ≤ M
def bx (q : Nat → Qd) : Array Value := #[(q 0).v, .int .i64 (q 0).f, (q 1).v, .int .i64 (q 1).f, (q 2).v, .int .i64 (q 2).f]
def upq (q : Nat → Qd) (i : Nat) (d : Qd) : Nat → Qd := fun j => if j = i then d else q j
theorem upq_same (q : Nat → Qd) (i : Nat) (d : Qd) : upq q i d i = d := by simp [upq]
theorem upq_other (q : Nat → Qd) {i j : Nat} (d : Qd) (h : j ≠ i) : upq q i d j = q j := by simp [upq, h]
theorem three {i : Nat} (h : i < 3) : i = 0 ∨ i = 1 ∨ i = 2 := by omega
theorem bx_v (q : Nat → Qd) {i : Nat} (h : i < 3) : (bx q)[i * 2]? = some (q i).v := by
  rcases three h with rfl | rfl | rfl <;> rfl
theorem bx_f (q : Nat → Qd) {i : Nat} (h : i < 3) : (bx q)[i * 2 + 1]? = some (.int .i64 (q i).f) := by
  rcases three h with rfl | rfl | rfl <;> rfl
theorem bx_set (q : Nat → Qd) {i : Nat} (h : i < 3) (d : Qd) : ((bx q).setIfInBounds (i * 2) d.v).setIfInBounds (i * 2 + 1) (.int .i64 d.f) = bx (upq q i d) := by
  rcases three h with rfl | rfl | rfl <;> simp [bx, upq]
theorem bx_set0 (q : Nat → Qd) {i : Nat} (h : i < 3) (d : Qd) (hf : d.f = (q i).f) : (bx q).setIfInBounds (i * 2) d.v = bx (upq q i d) := by
  rw [← bx_set q h d, hf]
  exact (set_self (by rw [Array.getElem?_setIfInBounds_ne (by omega)]; exact bx_f q h)).symm
/-- Whose blocks a line's are. -/
def Fq (x : Nat) (q : Nat → Qd) (g : Nat) : Prop := g = x ∨ ∃ i, i < 3 ∧ (q i).v.ownBlock = some g
structure Ln (w : World) (x : Nat) (q : Nat → Qd) (M : Nat) : Prop where
  box : w.heap[x]? = some (.cells (bx q) 72 (0, 0))
  k : ∀ i, i < 3 → Qk w (q i) M
  ap : ∀ i j g, i < 3 → j < 3 → i ≠ j → (q i).v.ownBlock = some g → (q j).v.ownBlock ≠ some g
theorem Ln.lt {w : World} {x M : Nat} {q : Nat → Qd} (h : Ln w x q M) {g : Nat} (hg : Fq x q g) : g < w.heap.size := by
  rcases hg with rfl | ⟨i, hi, hg⟩
  · exact (Array.getElem?_eq_some_iff.1 h.box).1
  · exact ((h.k i hi).row.lt g hg).2
theorem Ln.keep {S : Nat → Prop} {w w' : World} {x M : Nat} {q : Nat → Qd} (h : Ln w x q M) (hk : Kl S w w') (hn : ∀ g, Fq x q g → ¬ S g) : Ln w' x q M :=
  ⟨(hk.block x (h.lt (.inl rfl)) (hn x (.inl rfl))).trans h.box, fun i hi => ⟨(h.k i hi).len, hk.own (h.k i hi).row (fun g hg => hn g (.inr ⟨i, hi, hg⟩)), (h.k i hi).sl, (h.k i hi).small⟩, h.ap⟩
theorem Ln.mono {w : World} {x M M' : Nat} {q : Nat → Qd} (h : Ln w x q M) (hm : M ≤ M') : Ln w x q M' := ⟨h.box, fun i hi => ⟨(h.k i hi).len, (h.k i hi).row, (h.k i hi).sl, Nat.le_trans (h.k i hi).small hm⟩, h.ap⟩
/-- One queue of a line was touched. -/
theorem Ln.step {S : Nat → Prop} {w w' : World} {x M M' i : Nat} {q : Nat → Qd} {d : Qd} (h : Ln w x q M) (hi : i < 3) (hM : M ≤ M') (hb : w'.heap[x]? = some (.cells (bx (upq q i d)) 72 (0, 0))) (hd : Qk w' d M') (hat : ∀ g, d.v.ownBlock = some g → (q i).v.ownBlock = some g ∨ w.heap.size ≤ g)
    (hk : Kl S w w') (hn : ∀ j g, j < 3 → j ≠ i → (q j).v.ownBlock = some g → ¬ S g) : Ln w' x (upq q i d) M' ∧ (∀ g, Fq x (upq q i d) g → Fq x q g ∨ w.heap.size ≤ g) := by
  refine ⟨⟨hb, fun j hj => ?_, fun j l g hj hl hjl hg hg2 => ?_⟩, fun g hg => ?_⟩
  · by_cases e : j = i
    · subst e; rw [upq_same]; exact hd
    · rw [upq_other q d e]
      have k := h.k j hj
      exact ⟨k.len, hk.own k.row (fun g hg => hn j g hj e hg), k.sl, Nat.le_trans k.small hM⟩
  · by_cases e : j = i
    · subst e
      rw [upq_same] at hg
      rw [upq_other q d (fun e => hjl e.symm)] at hg2
      rcases hat g hg with e1 | e1
      · exact h.ap j l g hj hl hjl e1 hg2
      · have := ((h.k l hl).row.lt g hg2).2; omega
    · rw [upq_other q d e] at hg
      by_cases e2 : l = i
      · subst e2
        rw [upq_same] at hg2
        rcases hat g hg2 with e1 | e1
        · exact h.ap l j g hl hj (fun e => hjl e.symm) e1 hg
        · have := ((h.k j hj).row.lt g hg).2; omega
      · rw [upq_other q d e2] at hg2
        exact h.ap j l g hj hl hjl hg hg2
  · rcases hg with rfl | ⟨j, hj, hg⟩
    · exact .inl (.inl rfl)
    · by_cases e : j = i
      · subst e
        rw [upq_same] at hg
        rcases hat g hg with e1 | e1
        · exact .inl (.inr ⟨j, hj, e1⟩)
        · exact .inr e1
      · rw [upq_other q d e] at hg
        exact .inl (.inr ⟨j, hj, hg⟩)

theorem ln_ty : 37 ≠ 72 := by decide
/-- A queue of a line: how many wait. -/
theorem lcount {w : World} {x M i : Nat} {q : Nat → Qd} (h : Ln w x q M) (hi : i < 3) (hM : M ≤ 68719476736) :
    Calls Tryd.prog 34 #[.pointer (some ⟨x, i * 2, none⟩)] w fun e w' => e = .returned (.int .i64 ((q i).L.length : Nat)) ∧ Below w.heap.size w w' := by
  have k := h.k i hi
  obtain ⟨a, c, hv⟩ := own_sl k.row
  have := count_any w x (i * 2) ((q i).f + (q i).L.length) c (q i).f a (by rw [cell_of_row _ _ _ _ _ _ h.box, bx_v q hi, hv]) (by rw [cell_of_row _ _ _ _ _ _ h.box, bx_f q hi]) (by omega) (by have := k.small; omega)
  rwa [Nat.add_sub_cancel_left] at this
theorem lput {w : World} {x M i : Nat} {q : Nat → Qd} (h : Ln w x q M) (hi : i < 3) (hM : M ≤ 68719476736) (y : Sv) (hy : y.Sl) :
    Calls Tryd.prog 42 #[.pointer (some ⟨x, i * 2, none⟩), .agg (svC y.s y.hv y.tv y.dv y.cv)] w fun e w' => (∃ u, e = .returned u) ∧ ∃ v', Ln w' x (upq q i ⟨v', (q i).f, (q i).Z, (q i).L ++ [y]⟩) (M + 1) ∧ (∀ g, Fq x (upq q i ⟨v', (q i).f, (q i).Z, (q i).L ++ [y]⟩) g → Fq x q g ∨ w.heap.size ≤ g) ∧ Kl (Fq x q) w w' := by
  have k := h.k i hi
  refine (qput_any w x (i * 2) _ _ _ y _ _ h.box ln_ty (bx_v q hi) k.row hy.one (by have := k.small; omega)).mono ?_
  rintro e w' ⟨hu, v', b, r, a, kl⟩
  have h3 : seg [y] = y.L := by simp [seg]
  have hsl : ∀ z ∈ (q i).L ++ [y], z.Sl := fun z hz => by
    rcases List.mem_append.mp hz with hz | hz
    · exact k.sl z hz
    · simp at hz; subst hz; exact hy
  have hn : ∀ j g, j < 3 → j ≠ i → (q j).v.ownBlock = some g → ¬ (g = x ∨ (q i).v.ownBlock = some g) := fun j g hj hji hg e => by
    rcases e with rfl | e
    · exact own_hp (h.k j hj).row h.box ln_ty hg
    · exact h.ap i j g hi hj (fun e => hji e.symm) e hg
  obtain ⟨s1, s2⟩ := h.step (d := ⟨v', (q i).f, (q i).Z, (q i).L ++ [y]⟩) (M' := M + 1) hi (by omega) (by rw [b, ← bx_set0 q hi ⟨v', (q i).f, (q i).Z, (q i).L ++ [y]⟩ rfl]) ⟨k.len, by rw [List.length_append, seg_app, h3, ← List.append_assoc]; exact r, hsl, by have := k.small; simp; omega⟩ a kl hn
  exact ⟨hu, v', s1, s2, kl.mono (fun g _ e => e.elim .inl (fun e => .inr ⟨i, hi, e⟩))⟩
theorem ltakeI {w : World} {x M i : Nat} {q : Nat → Qd} (h : Ln w x q M) (hi : i < 3) (hM : M ≤ 68719476736) (ov : Value) (O : List Sv) (N : Nat) (ho : w.ownsRow 0 37 14 ov N (seg O)) (hN : N ≤ 68719476736) (hap : ∀ j g, j < 3 → (q j).v.ownBlock = some g → ov.ownBlock ≠ some g) (mi : Int) (most : Nat) (hmi : mi.toNat = most) :
    Calls Tryd.prog 27 #[.pointer (some ⟨x, i * 2, none⟩), ov, .int .i64 mi] w fun e w' => ∃ ov' d, e = .returned ov' ∧ d.L = (q i).L.drop most ∧ Ln w' x (upq q i d) M ∧ (∀ g, Fq x (upq q i d) g → Fq x q g ∨ w.heap.size ≤ g) ∧ w'.ownsRow 0 37 14 ov' (N + ((q i).L.take most).length) (seg (O ++ (q i).L.take most)) ∧ (∀ g, ov'.ownBlock = some g → ov.ownBlock = some g ∨ w.heap.size ≤ g) ∧ (∀ j g, j < 3 → (upq q i d j).v.ownBlock = some g → ov'.ownBlock ≠ some g) ∧ Kl (fun g => Fq x q g ∨ ov.ownBlock = some g) w w' := by
  have k := h.k i hi
  have e0 : seg (q i).L = seg ((q i).L.take most) ++ seg ((q i).L.drop most) := by rw [← seg_app, List.take_append_drop]
  have hl : (q i).L.length = ((q i).L.take most).length + ((q i).L.drop most).length := by simp; omega
  have hr := k.row
  rw [e0, hl] at hr
  refine (qtake_any w x (i * 2) (q i).f ((q i).L.take most).length ((q i).L.drop most).length N mi (q i).v ov (q i).Z (seg ((q i).L.take most)) (seg ((q i).L.drop most)) (seg O) _ _ h.box ln_ty (bx_v q hi) (bx_f q hi) k.len (seg_len _) hr ho (fun g hg => hap i g hi hg) (seg_one (fun y hy => (k.sl y (List.mem_of_mem_take hy)).one)) (seg_one (fun y hy => (k.sl y (List.mem_of_mem_drop hy)).one)) (by rw [← hl]; have := k.small; omega) hN (by rw [← hl, List.length_take]; omega)).mono ?_
  rintro e w' ⟨v', ov', f', Z', rfl, hle, c1, c2, c3, c4, c5, c6, c7, c8⟩
  have hn : ∀ j g, j < 3 → j ≠ i → (q j).v.ownBlock = some g → ¬ (g = x ∨ (q i).v.ownBlock = some g ∨ ov.ownBlock = some g) := fun j g hj hji hg e => by
    rcases e with rfl | e | e
    · exact own_hp (h.k j hj).row h.box ln_ty hg
    · exact h.ap i j g hi hj (fun e => hji e.symm) e hg
    · exact hap j g hj hg e
  obtain ⟨s1, s2⟩ := h.step (d := ⟨v', f', Z', (q i).L.drop most⟩) (M' := M) hi (by omega) (by rw [c2, bx_set q hi ⟨v', f', Z', (q i).L.drop most⟩]) ⟨c1, c3, fun z hz => k.sl z (List.mem_of_mem_drop hz), by have := k.small; simp only; omega⟩ c5 c8 hn
  · refine ⟨ov', ⟨v', f', Z', (q i).L.drop most⟩, rfl, rfl, s1, s2, by rw [seg_app]; exact c4, c6, fun j g hj hg hg2 => ?_, c8.mono (fun g _ e => ?_)⟩
    · by_cases e : j = i
      · subst e
        rw [upq_same] at hg
        exact c7 g hg hg2
      · rw [upq_other q _ e] at hg
        rcases c6 g hg2 with e1 | e1
        · exact hap j g hj hg e1
        · have := ((h.k j hj).row.lt g hg).2; omega
    · rcases e with e | e | e
      · exact .inl (.inl e)
      · exact .inl (.inr ⟨i, hi, e⟩)
      · exact .inr e
theorem ltake {w : World} {x M i : Nat} {q : Nat → Qd} (h : Ln w x q M) (hi : i < 3) (hM : M ≤ 68719476736) (ov : Value) (O : List Sv) (N : Nat) (ho : w.ownsRow 0 37 14 ov N (seg O)) (hN : N ≤ 68719476736) (hap : ∀ j g, j < 3 → (q j).v.ownBlock = some g → ov.ownBlock ≠ some g) (most : Nat) (hm : most ≤ 1152921504606846976) :
    Calls Tryd.prog 27 #[.pointer (some ⟨x, i * 2, none⟩), ov, .int .i64 most] w fun e w' => ∃ ov' d, e = .returned ov' ∧ d.L = (q i).L.drop most ∧ Ln w' x (upq q i d) M ∧ (∀ g, Fq x (upq q i d) g → Fq x q g ∨ w.heap.size ≤ g) ∧ w'.ownsRow 0 37 14 ov' (N + ((q i).L.take most).length) (seg (O ++ (q i).L.take most)) ∧ (∀ g, ov'.ownBlock = some g → ov.ownBlock = some g ∨ w.heap.size ≤ g) ∧ (∀ j g, j < 3 → (upq q i d j).v.ownBlock = some g → ov'.ownBlock ≠ some g) ∧ Kl (fun g => Fq x q g ∨ ov.ownBlock = some g) w w' := ltakeI h hi hM ov O N ho hN hap most most (by omega)
theorem ldrop {w : World} {x M i bs ba : Nat} {q : Nat → Qd} (h : Ln w x q M) (hi : i < 3) (hM : M ≤ 68719476736) (S1 S2 : Int) (all : Bool) (k0 : w.cell? ⟨bs, 0, none⟩ = some (.int .i64 S1)) (k1 : w.cell? ⟨bs, 1, none⟩ = some (.int .i64 S2)) (k2 : w.cell? ⟨ba, 0, none⟩ = some (.bool all)) (hbs : ¬ Fq x q bs) (hba : ¬ Fq x q ba) :
    Calls Tryd.prog 33 #[.pointer (some ⟨x, i * 2, none⟩), fnM bs ba] w fun e w' => e = .returned (.int .i64 (((q i).L.length - (kp S1 S2 all (q i).L).length : Nat) : Int)) ∧ ∃ d : Qd, d.L = kp S1 S2 all (q i).L ∧ Ln w' x (upq q i d) M ∧ (∀ g, Fq x (upq q i d) g → Fq x q g ∨ w.heap.size ≤ g) ∧ Kl (Fq x q) w w' := by
  have k := h.k i hi
  refine (qdrop_any w x (i * 2) (q i).f (q i).L.length bs ba (q i).v (q i).Z (q i).L S1 S2 all _ _ h.box ln_ty (bx_v q hi) (bx_f q hi) k.len k.row rfl k.sl (by have := k.small; omega) k0 k1 k2 (fun e => hbs (.inr ⟨i, hi, e⟩)) (fun e => hba (.inr ⟨i, hi, e⟩)) (fun e => hbs (.inl e)) (fun e => hba (.inl e))).mono ?_
  rintro e w' ⟨rfl, v', f', Z', hle, c1, c2, c3, c4, c5⟩
  have hkl : (kp S1 S2 all (q i).L).length ≤ (q i).L.length := List.length_filter_le _ _
  have hn : ∀ j g, j < 3 → j ≠ i → (q j).v.ownBlock = some g → ¬ (g = x ∨ (q i).v.ownBlock = some g) := fun j g hj hji hg e => by
    rcases e with rfl | e
    · exact own_hp (h.k j hj).row h.box ln_ty hg
    · exact h.ap i j g hi hj (fun e => hji e.symm) e hg
  obtain ⟨s1, s2⟩ := h.step (d := ⟨v', f', Z', kp S1 S2 all (q i).L⟩) (M' := M) hi (by omega) (by rw [c2, bx_set q hi ⟨v', f', Z', kp S1 S2 all (q i).L⟩]) ⟨c1, c3, fun z hz => k.sl z (List.mem_filter.mp hz).1, by have := k.small; simp only; omega⟩ c4 c5 hn
  · exact ⟨rfl, _, rfl, s1, s2, c5.mono (fun g _ e => e.elim .inl (fun e => .inr ⟨i, hi, e⟩))⟩

end Go.Proofs.YtdfdaambfihjaaaDoor.L

namespace Go.Proofs.YtdfdaambfihjaaaDoor
open Go.RowKit

set_option maxRecDepth 100000 in
set_option maxHeartbeats 8000000 in
theorem same_gen2 (s t : Sg) (hv tv dv cv hv' tv' dv' cv' : Value) (hx tx hx' tx' : List Xr) (w : World) (h : SIn w s hv tv dv cv hx tx) (h' : SIn w t hv' tv' dv' cv' hx' tx') :
    Calls Tryd.prog 26 #[.agg (svC s hv tv dv cv), .agg (svC t hv' tv' dv' cv')] w (SmPost (s = t) w) := by
  obtain ⟨ah, ch, rfl, _⟩ := h.head.shape
  obtain ⟨at', ct, rfl, _⟩ := h.tail.shape
  obtain ⟨ad, cd, rfl, _⟩ := h.data.shape
  obtain ⟨ac, cc, rfl, _⟩ := h.clm.shape
  obtain ⟨bh, eh, rfl, _⟩ := h'.head.shape
  obtain ⟨bt, et, rfl, _⟩ := h'.tail.shape
  obtain ⟨bd, ed, rfl, _⟩ := h'.data.shape
  obtain ⟨bc, ec, rfl, _⟩ := h'.clm.shape
  have HE1 : Hid (s = t → hx.map Xr.ex = hx'.map Xr.ex) := fun e => by rw [← h.headEq, ← h'.headEq, e]
  have HE2 : Hid (s = t → tx.map Xr.ex = tx'.map Xr.ex) := fun e => by rw [← h.tailEq, ← h'.tailEq, e]
  have HE3 : Hid (s = t → s.clm = t.clm) := fun e => by rw [e]
  have HX0 : Hid (((w.alloc (svO s (.slice ah hx.length ch) (.slice at' tx.length ct) (.slice ad s.data.length cd) (.slice ac s.clm.length cc))).alloc (svO t (.slice bh hx'.length eh) (.slice bt tx'.length et) (.slice bd t.data.length ed) (.slice bc t.clm.length ec))).heap[w.heap.size]? = some (svO s (.slice ah hx.length ch) (.slice at' tx.length ct) (.slice ad s.data.length cd) (.slice ac s.clm.length cc))) := (Below.heap_alloc _ _ _ (by simp)).trans (heap_alloc_new' w _)
  have HX1 : Hid (((w.alloc (svO s (.slice ah hx.length ch) (.slice at' tx.length ct) (.slice ad s.data.length cd) (.slice ac s.clm.length cc))).alloc (svO t (.slice bh hx'.length eh) (.slice bt tx'.length et) (.slice bd t.data.length ed) (.slice bc t.clm.length ec))).heap[w.heap.size + 1]? = some (svO t (.slice bh hx'.length eh) (.slice bt tx'.length et) (.slice bd t.data.length ed) (.slice bc t.clm.length ec))) := by
    have := heap_alloc_new' (w.alloc (svO s (.slice ah hx.length ch) (.slice at' tx.length ct) (.slice ad s.data.length cd) (.slice ac s.clm.length cc))) (svO t (.slice bh hx'.length eh) (.slice bt tx'.length et) (.slice bd t.data.length ed) (.slice bc t.clm.length ec))
    rw [World.size_alloc] at this; exact this
  have hb0 : Below w.heap.size w ((w.alloc (svO s (.slice ah hx.length ch) (.slice at' tx.length ct) (.slice ad s.data.length cd) (.slice ac s.clm.length cc))).alloc (svO t (.slice bh hx'.length eh) (.slice bt tx'.length et) (.slice bd t.data.length ed) (.slice bc t.clm.length ec))) := ((Below.refl _ _).alloc (Nat.le_refl _) _).alloc (by simp) _
  have hsz : ((w.alloc (svO s (.slice ah hx.length ch) (.slice at' tx.length ct) (.slice ad s.data.length cd) (.slice ac s.clm.length cc))).alloc (svO t (.slice bh hx'.length eh) (.slice bt tx'.length et) (.slice bd t.data.length ed) (.slice bc t.clm.length ec))).heap.size = w.heap.size + 2 := by simp
  have HS : Hid (∀ W, Below w.heap.size w W → SIn W s (.slice ah hx.length ch) (.slice at' tx.length ct) (.slice ad s.data.length cd) (.slice ac s.clm.length cc) hx tx ∧ SIn W t (.slice bh hx'.length eh) (.slice bt tx'.length et) (.slice bd t.data.length ed) (.slice bc t.clm.length ec) hx' tx') := fun W hW => ⟨h.below hW, h'.below hW⟩
  clear h h'
  go_enter Tryd.func26, Tryd.ntmps26
  go_wp2_with fail
  generalize ((w.alloc (svO s (.slice ah hx.length ch) (.slice at' tx.length ct) (.slice ad s.data.length cd) (.slice ac s.clm.length cc))).alloc (svO t (.slice bh hx'.length eh) (.slice bt tx'.length et) (.slice bd t.data.length ed) (.slice bc t.clm.length ec))) = W0 at *
  have HB0 : Hid (Below w.heap.size w W0) := hb0
  have HZ : Hid (W0.heap.size = w.heap.size + 2) := hsz
  clear hb0 hsz
  refine (sameExts_gen _ _ hx hx' W0 (HS.out W0 HB0.out).1.head (HS.out W0 HB0.out).2.head).mono ?_
  rintro e w1 ⟨q1, rfl, hq1, hb1⟩
  have HQ1 : Hid (s = t → q1 = true) := fun e => hq1 (HE1.out e)
  have HY1 : Hid (Below W0.heap.size W0 w1) := hb1
  have HB1 : Hid (Below w.heap.size w w1) := HB0.out.trans (hb1.mono HB0.out.size)
  clear hq1 hb1 HE1
  have x4 := cell_of_row _ w.heap.size 4 _ _ _ ((HY1.out.block _ (by have := HZ.out; omega)).trans HX0.out)
  have y4 := cell_of_row _ (w.heap.size + 1) 4 _ _ _ ((HY1.out.block _ (by have := HZ.out; omega)).trans HX1.out)
  simp only [List.getElem?_toArray, List.getElem?_cons_succ, List.getElem?_cons_zero] at x4 y4
  go_wp2_with fail
  refine (sameExts_gen _ _ tx tx' w1 (HS.out w1 HB1.out).1.tail (HS.out w1 HB1.out).2.tail).mono ?_
  rintro e w2 ⟨q2, rfl, hq2, hb2⟩
  have HQ2 : Hid (s = t → q2 = true) := fun e => hq2 (HE2.out e)
  have HY2 : Hid (Below W0.heap.size W0 w2) := HY1.out.trans (hb2.mono HY1.out.size)
  have HB2 : Hid (Below w.heap.size w w2) := HB1.out.trans (hb2.mono HB1.out.size)
  clear hq2 hb2 HE2 HB1 HY1 x4 y4
  have x12 := cell_of_row _ w.heap.size 12 _ _ _ ((HY2.out.block _ (by have := HZ.out; omega)).trans HX0.out)
  have y12 := cell_of_row _ (w.heap.size + 1) 12 _ _ _ ((HY2.out.block _ (by have := HZ.out; omega)).trans HX1.out)
  simp only [List.getElem?_toArray, List.getElem?_cons_succ, List.getElem?_cons_zero] at x12 y12
  go_wp2_with fail
  refine (sameSpans_gen _ _ s.clm t.clm w2 (HS.out w2 HB2.out).1.clm (HS.out w2 HB2.out).2.clm).mono ?_
  rintro e w3 ⟨q3, rfl, hq3, hb3⟩
  have HQ3 : Hid (s = t → q3 = true) := fun e => hq3 (HE3.out e)
  have HY3 : Hid (Below W0.heap.size W0 w3) := HY2.out.trans (hb3.mono HY2.out.size)
  have HB3 : Hid (Below w.heap.size w w3) := HB2.out.trans (hb3.mono HB2.out.size)
  clear hq3 hb3 HE3 HB2 HY2 x12 y12
  have x0 := cell_of_row _ w.heap.size 0 _ _ _ ((HY3.out.block _ (by have := HZ.out; omega)).trans HX0.out)
  have y0 := cell_of_row _ (w.heap.size + 1) 0 _ _ _ ((HY3.out.block _ (by have := HZ.out; omega)).trans HX1.out)
  have x1 := cell_of_row _ w.heap.size 1 _ _ _ ((HY3.out.block _ (by have := HZ.out; omega)).trans HX0.out)
  have y1 := cell_of_row _ (w.heap.size + 1) 1 _ _ _ ((HY3.out.block _ (by have := HZ.out; omega)).trans HX1.out)
  have x2 := cell_of_row _ w.heap.size 2 _ _ _ ((HY3.out.block _ (by have := HZ.out; omega)).trans HX0.out)
  have y2 := cell_of_row _ (w.heap.size + 1) 2 _ _ _ ((HY3.out.block _ (by have := HZ.out; omega)).trans HX1.out)
  have x5 := cell_of_row _ w.heap.size 5 _ _ _ ((HY3.out.block _ (by have := HZ.out; omega)).trans HX0.out)
  have y5 := cell_of_row _ (w.heap.size + 1) 5 _ _ _ ((HY3.out.block _ (by have := HZ.out; omega)).trans HX1.out)
  have x6 := cell_of_row _ w.heap.size 6 _ _ _ ((HY3.out.block _ (by have := HZ.out; omega)).trans HX0.out)
  have y6 := cell_of_row _ (w.heap.size + 1) 6 _ _ _ ((HY3.out.block _ (by have := HZ.out; omega)).trans HX1.out)
  have x7 := cell_of_row _ w.heap.size 7 _ _ _ ((HY3.out.block _ (by have := HZ.out; omega)).trans HX0.out)
  have y7 := cell_of_row _ (w.heap.size + 1) 7 _ _ _ ((HY3.out.block _ (by have := HZ.out; omega)).trans HX1.out)
  have x8 := cell_of_row _ w.heap.size 8 _ _ _ ((HY3.out.block _ (by have := HZ.out; omega)).trans HX0.out)
  have y8 := cell_of_row _ (w.heap.size + 1) 8 _ _ _ ((HY3.out.block _ (by have := HZ.out; omega)).trans HX1.out)
  have x9 := cell_of_row _ w.heap.size 9 _ _ _ ((HY3.out.block _ (by have := HZ.out; omega)).trans HX0.out)
  have y9 := cell_of_row _ (w.heap.size + 1) 9 _ _ _ ((HY3.out.block _ (by have := HZ.out; omega)).trans HX1.out)
  have x10 := cell_of_row _ w.heap.size 10 _ _ _ ((HY3.out.block _ (by have := HZ.out; omega)).trans HX0.out)
  have y10 := cell_of_row _ (w.heap.size + 1) 10 _ _ _ ((HY3.out.block _ (by have := HZ.out; omega)).trans HX1.out)
  have x11 := cell_of_row _ w.heap.size 11 _ _ _ ((HY3.out.block _ (by have := HZ.out; omega)).trans HX0.out)
  have y11 := cell_of_row _ (w.heap.size + 1) 11 _ _ _ ((HY3.out.block _ (by have := HZ.out; omega)).trans HX1.out)
  have x13 := cell_of_row _ w.heap.size 13 _ _ _ ((HY3.out.block _ (by have := HZ.out; omega)).trans HX0.out)
  have y13 := cell_of_row _ (w.heap.size + 1) 13 _ _ _ ((HY3.out.block _ (by have := HZ.out; omega)).trans HX1.out)
  simp only [List.getElem?_toArray, List.getElem?_cons_succ, List.getElem?_cons_zero] at x0 y0 x1 y1 x2 y2 x5 y5 x6 y6 x7 y7 x8 y8 x9 y9 x10 y10 x11 y11 x13 y13
  obtain ⟨a1, c1, hv1, hl1, _⟩ := (HS.out w3 HB3.out).1.data.shape
  obtain ⟨a2, c2, hv2, hl2, _⟩ := (HS.out w3 HB3.out).2.data.shape
  simp only [Value.slice.injEq, true_and] at hv1 hv2
  obtain ⟨rfl, rfl⟩ := hv1
  obtain ⟨rfl, rfl⟩ := hv2
  have k1 := conv_any w3 _ _ cd s.data rfl hl1
  have k2 := conv_any w3 _ _ ed t.data rfl hl2
  have HD : Hid (s = t → strOfNums s.data = strOfNums t.data) := fun e => by rw [e]
  clear hl1 hl2 HS HX0 HX1 HY3 HB0 HZ
  generalize strOfNums s.data = S1 at *
  generalize strOfNums t.data = S2 at *
  go_upto_region 4 with fail
  simp only [List.append_eq, List.cons_append, List.nil_append]
  cases q1
  · have HV : Hid (¬ s = t) := fun e => by have := HQ1.out e; cases this
    clear HQ1 HQ2 HQ3 HD
    go_wp2
    go_ret
    exact ⟨_, rfl, fun h => absurd h HV.out, HB3.out⟩
  cases q2
  · have HV : Hid (¬ s = t) := fun e => by have := HQ2.out e; cases this
    clear HQ1 HQ2 HQ3 HD
    go_wp2
    go_ret
    exact ⟨_, rfl, fun h => absurd h HV.out, HB3.out⟩
  cases q3
  · have HV : Hid (¬ s = t) := fun e => by have := HQ3.out e; cases this
    clear HQ1 HQ2 HQ3 HD
    go_wp2
    go_ret
    exact ⟨_, rfl, fun h => absurd h HV.out, HB3.out⟩
  by_cases e_typ : s.typ = t.typ
  rotate_left
  · have HV : Hid (¬ s = t) := fun e => e_typ (by rw [e])
    have e0 : (s.typ == t.typ) = false := by simp [e_typ]
    clear HQ1 HQ2 HQ3 HD
    go_wp2
    go_ret
    exact ⟨_, rfl, fun h => absurd h HV.out, HB3.out⟩
  by_cases e_org : s.org = t.org
  rotate_left
  · have HV : Hid (¬ s = t) := fun e => e_org (by rw [e])
    have e0 : (s.org == t.org) = false := by simp [e_org]
    clear HQ1 HQ2 HQ3 HD
    go_wp2
    go_ret
    exact ⟨_, rfl, fun h => absurd h HV.out, HB3.out⟩
  by_cases e_num : s.num = t.num
  rotate_left
  · have HV : Hid (¬ s = t) := fun e => e_num (by rw [e])
    have e0 : (s.num == t.num) = false := by simp [e_num]
    clear HQ1 HQ2 HQ3 HD
    go_wp2
    go_ret
    exact ⟨_, rfl, fun h => absurd h HV.out, HB3.out⟩
  by_cases e_srv : s.srv = t.srv
  rotate_left
  · have HV : Hid (¬ s = t) := fun e => e_srv (by rw [e])
    have e0 : (s.srv == t.srv) = false := by simp [e_srv]
    clear HQ1 HQ2 HQ3 HD
    go_wp2
    go_ret
    exact ⟨_, rfl, fun h => absurd h HV.out, HB3.out⟩
  by_cases e_off : s.off = t.off
  rotate_left
  · have HV : Hid (¬ s = t) := fun e => e_off (by rw [e])
    have e0 : (s.off == t.off) = false := by simp [e_off]
    clear HQ1 HQ2 HQ3 HD
    go_wp2
    go_ret
    exact ⟨_, rfl, fun h => absurd h HV.out, HB3.out⟩
  by_cases eS : S1.toList = S2.toList
  rotate_left
  · have HV : Hid (¬ s = t) := fun e => eS (by rw [HD.out e])
    have e0 : (S1.toList == S2.toList) = false := by simp [eS]
    clear HQ1 HQ2 HQ3 HD
    go_wp2
    go_ret
    exact ⟨_, rfl, fun h => absurd h HV.out, HB3.out⟩
  have eS2 : (S1.toList == S2.toList) = true := by simp [eS]
  by_cases e_chk : s.chk = t.chk
  rotate_left
  · have HV : Hid (¬ s = t) := fun e => e_chk (by rw [e])
    have e0 : (s.chk == t.chk) = false := by simp [e_chk]
    clear HQ1 HQ2 HQ3 HD
    go_wp2
    go_ret
    exact ⟨_, rfl, fun h => absurd h HV.out, HB3.out⟩
  by_cases e_rep : s.rep = t.rep
  rotate_left
  · have HV : Hid (¬ s = t) := fun e => e_rep (by rw [e])
    have e0 : (s.rep == t.rep) = false := by simp [e_rep]
    clear HQ1 HQ2 HQ3 HD
    go_wp2
    go_ret
    exact ⟨_, rfl, fun h => absurd h HV.out, HB3.out⟩
  by_cases e_upp : s.upp = t.upp
  rotate_left
  · have HV : Hid (¬ s = t) := fun e => e_upp (by rw [e])
    have e0 : (s.upp == t.upp) = false := by simp [e_upp]
    clear HQ1 HQ2 HQ3 HD
    go_wp2
    go_ret
    exact ⟨_, rfl, fun h => absurd h HV.out, HB3.out⟩
  by_cases e_low : s.low = t.low
  rotate_left
  · have HV : Hid (¬ s = t) := fun e => e_low (by rw [e])
    have e0 : (s.low == t.low) = false := by simp [e_low]
    clear HQ1 HQ2 HQ3 HD
    go_wp2
    go_ret
    exact ⟨_, rfl, fun h => absurd h HV.out, HB3.out⟩
  by_cases e_rsn : s.rsn = t.rsn
  rotate_left
  · have HV : Hid (¬ s = t) := fun e => e_rsn (by rw [e])
    have e0 : (s.rsn == t.rsn) = false := by simp [e_rsn]
    clear HQ1 HQ2 HQ3 HD
    go_wp2
    go_ret
    exact ⟨_, rfl, fun h => absurd h HV.out, HB3.out⟩
  clear HQ1 HQ2 HQ3 HD
  go_wp2
  go_ret
  exact ⟨true, rfl, fun _ => rfl, HB3.out⟩

end Go.Proofs.YtdfdaambfihjaaaDoor

namespace Go.Proofs.YtdfdaambfihjaaaDoor.L
open Go.RowKit
set_option linter.unusedVariables false
set_option linter.unusedSimpArgs false

/-! ## A segment in memory of its own -/
/-- What holds wherever the blocks from lo on are as in w. -/
def Stb (P : World → Prop) (lo : Nat) (w : World) : Prop := ∀ w', (∀ g, lo ≤ g → g < w.heap.size → w'.heap[g]? = w.heap[g]?) → P w'
theorem Stb.keep {P : World → Prop} {lo : Nat} {w w' : World} (h : Stb P lo w) (hs : w.heap.size ≤ w'.heap.size) (hb : ∀ g, lo ≤ g → g < w.heap.size → w'.heap[g]? = w.heap[g]?) : Stb P lo w' := fun w2 h2 => h w2 (fun g h0 h1 => (h2 g h0 (Nat.lt_of_lt_of_le h1 hs)).trans (hb g h0 h1))
theorem Stb.low {P : World → Prop} {lo lo' : Nat} {w : World} (h : Stb P lo w) (hl : lo' ≤ lo) : Stb P lo' w := fun w2 h2 => h w2 (fun g h0 h1 => h2 g (by omega) h1)
theorem own_bounds {w : World} {base n c : Nat} {e : TypeId} {a : Option Addr} {xs : List Value} (h : w.ownsRow base e 1 (.slice a n c) n xs) : n ≤ c ∧ c ≤ 9223372036854775807 ∧ (a = none → n = 0 ∧ c = 0) := by
  obtain ⟨_, ⟨e1, e0⟩ | ⟨g, cap, cur, e1, _, _, h4, h5, _⟩⟩ := h
  · simp only [Value.slice.injEq] at e1
    exact ⟨by omega, by omega, fun _ => ⟨by omega, by omega⟩⟩
  · simp only [Value.slice.injEq] at e1
    obtain ⟨rfl, _, rfl⟩ := e1
    unfold maxLen at h5
    exact ⟨h4, h5, fun e => by cases e⟩
theorem bin_own {w : World} {base : Nat} {v : Value} {zs : List Int} (h : w.ownsRow base 5 1 v zs.length (zs.map (Value.int .u8))) (hb : Bytey zs) (hs : zs.length ≤ 1048576) : BIn w v zs := by
  obtain ⟨a, c, rfl⟩ := own_shape h
  obtain ⟨b1, b2, b3⟩ := own_bounds h
  exact ⟨⟨a, c, rfl, (own_lies h).1, b3, b1, b2⟩, hb, by omega⟩
theorem flat2_get {α : Type} (f : α → List Value) (hf : ∀ x, (f x).length = 2) : ∀ (l : List α) (i : Nat) (p : α), l[i]? = some p → (l.flatMap f)[i * 2]? = (f p)[0]? ∧ (l.flatMap f)[i * 2 + 1]? = (f p)[1]?
  | [], i, p, h => by simp at h
  | s :: r, 0, p, h => by
    simp at h
    subst h
    have h2 := hf s
    rw [List.flatMap_cons]
    exact ⟨by rw [List.getElem?_append_left (by omega)], by rw [List.getElem?_append_left (by omega)]⟩
  | s :: r, i + 1, p, h => by
    simp at h
    have h1 := flat2_get f hf r i p h
    have h2 := hf s
    have e : ∀ j, ((s :: r).flatMap f)[(i + 1) * 2 + j]? = (r.flatMap f)[i * 2 + j]? := fun j => by
      rw [List.flatMap_cons, List.getElem?_append_right (by omega)]
      congr 1
      omega
    exact ⟨(e 0).trans h1.1, (e 1).trans h1.2⟩
theorem own_nz {w : World} {base n sz : Nat} {e : TypeId} {v : Value} {xs : List Value} (h : w.ownsRow base e sz v n xs) (hn : 0 < n) : ∃ g cap, v = .slice (some ⟨g, 0, none⟩) n cap := by
  obtain ⟨_, ⟨rfl, rfl⟩ | ⟨g, cap, cur, rfl, _⟩⟩ := h
  · omega
  · exact ⟨g, cap, rfl⟩
theorem xin_own {w : World} {base : Nat} {v : Value} {xs : List Xr} (h : XOwn w base v xs) (hl : xs.length ≤ 15) : XIn w v xs := by
  refine ⟨?_, fun x hx => bin_own (h.data x hx).row (h.data x hx).bytes (by have := (h.data x hx).small; omega), by omega⟩
  rcases Nat.eq_zero_or_pos xs.length with h0 | h0
  · obtain ⟨a, c, rfl⟩ := own_shape h.row
    exact ⟨a, c, rfl, .inl (List.eq_nil_of_length_eq_zero h0)⟩
  · obtain ⟨g, cap, hv⟩ := own_nz h.row h0
    have hr := h.row
    rw [hv] at hr ⊢
    refine ⟨_, cap, rfl, .inr ⟨g, 0, rfl, fun i x hx => ?_⟩⟩
    have hi : i < xs.length := (List.getElem?_eq_some_iff.mp hx).1
    have q := flat2_get Xr.cells (fun _ => rfl) xs i x hx
    rw [Nat.zero_add]
    exact ⟨(World.ownsRow.cellAt hr _ (by omega)).trans q.1, (World.ownsRow.cellAt hr _ (by omega)).trans q.2⟩
theorem cin_own {w : World} {base : Nat} {v : Value} {cl : List (Int × Int)} (h : w.ownsRow base 91 2 v cl.length (cl.flatMap spL)) (hl : cl.length ≤ 1048576) : CIn w v cl := by
  refine ⟨?_, hl⟩
  rcases Nat.eq_zero_or_pos cl.length with h0 | h0
  · obtain ⟨a, c, rfl⟩ := own_shape h
    exact ⟨a, c, rfl, .inl (List.eq_nil_of_length_eq_zero h0)⟩
  · obtain ⟨g, cap, hv⟩ := own_nz h h0
    rw [hv] at h ⊢
    refine ⟨_, cap, rfl, .inr ⟨g, 0, rfl, fun i x hx => ?_⟩⟩
    have hi : i < cl.length := (List.getElem?_eq_some_iff.mp hx).1
    have q := flat2_get spL (fun _ => rfl) cl i x hx
    rw [Nat.zero_add]
    exact ⟨(World.ownsRow.cellAt h _ (by omega)).trans q.1, (World.ownsRow.cellAt h _ (by omega)).trans q.2⟩
theorem own_stb {base n sz lo : Nat} {e : TypeId} {v : Value} {xs : List Value} {w : World} (h : w.ownsRow base e sz v n xs) (hl : lo ≤ base) : Stb (fun W => W.ownsRow base e sz v n xs) lo w := fun w' hw => own_blk h (fun g hg => hw g (by have := (h.lt g hg).1; omega) (h.lt g hg).2)
theorem xown_stb {base : Nat} {v : Value} {xs : List Xr} {w : World} (h : XOwn w base v xs) : Stb (fun W => XOwn W base v xs) base w := fun w' hw =>
  ⟨own_stb h.row (Nat.le_refl _) w' hw, fun x hx => ⟨own_stb (h.data x hx).row (Nat.le_refl _) w' hw, (h.data x hx).bytes, (h.data x hx).small, (h.data x hx).tag⟩, h.apart, h.nodup⟩

/-- A segment as it lies. -/
def SAt (w : World) (y : Sv) : Prop := ∃ hx tx, SIn w y.s y.hv y.tv y.dv y.cv hx tx
theorem SAt.sl {w : World} {y : Sv} (h : SAt w y) : y.Sl := by
  obtain ⟨hx, tx, h⟩ := h
  obtain ⟨a, c, e, _⟩ := h.head.shape
  obtain ⟨a2, c2, e2, _⟩ := h.tail.shape
  obtain ⟨a3, c3, e3, _⟩ := h.data.shape
  obtain ⟨a4, c4, e4, _⟩ := h.clm.shape
  exact ⟨⟨_, _, _, e⟩, ⟨_, _, _, e2⟩, ⟨_, _, _, e3⟩, _, _, _, e4⟩
def XsB (xs : List Xr) : Prop := xs.length ≤ 15 ∧ ∀ x ∈ xs, x.data.length ≤ 70000 ∧ 0 ≤ x.tag ∧ x.tag ≤ 255

theorem cpX {v : Value} {xs : List Xr} {w : World} (h : XIn w v xs) (hb : XsB xs) :
    Calls Tryd.prog 59 #[v] w fun e w' => ∃ a c, e = .returned (.slice a xs.length c) ∧ Stb (fun W => ∃ ys, XIn W (.slice a xs.length c) ys ∧ ys.map Xr.ex = xs.map Xr.ex) w.heap.size w' ∧ Below w.heap.size w w' := by
  refine (lnX_any h hb.2).mono ?_
  rintro e w' ⟨a, c, ys, rfl, h1, h2, h3, h4⟩
  exact ⟨a, c, rfl, fun W hW => ⟨ys, xin_own (xown_stb h1 W hW) (by have := hb.1; omega), h3⟩, h4⟩
theorem cpB {v : Value} {zs : List Int} {w : World} (h : BIn w v zs) :
    Calls Tryd.prog 60 #[v] w fun e w' => ∃ a c, e = .returned (.slice a zs.length c) ∧ Stb (fun W => BIn W (.slice a zs.length c) zs) w.heap.size w' ∧ Below w.heap.size w w' := by
  have hb := h.bytes
  have hs := h.small
  refine (lnB_any h).mono ?_
  rintro e w' ⟨a, c, rfl, h1, h4⟩
  exact ⟨a, c, rfl, fun W hW => bin_own (own_stb h1 (Nat.le_refl _) W hW) hb hs, h4⟩
theorem cpS {v : Value} {cl : List (Int × Int)} {w : World} (h : CIn w v cl) :
    Calls Tryd.prog 61 #[v] w fun e w' => ∃ a c, e = .returned (.slice a cl.length c) ∧ Stb (fun W => CIn W (.slice a cl.length c) cl) w.heap.size w' ∧ Below w.heap.size w w' := by
  have hs := h.small
  refine (lnS_any h).mono ?_
  rintro e w' ⟨a, c, rfl, h1, h4⟩
  exact ⟨a, c, rfl, fun W hW => cin_own (own_stb h1 (Nat.le_refl _) W hW) hs, h4⟩

end Go.Proofs.YtdfdaambfihjaaaDoor.L
