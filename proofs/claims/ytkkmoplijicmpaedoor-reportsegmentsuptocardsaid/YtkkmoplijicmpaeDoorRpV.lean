import Derived.Test.YtkkmoplijicmpaeDoorRpT
import Derived.Test.YtkkmoplijicmpaeDoorRpO
import Derived.Test.YtkkmoplijicmpaeDoorReport
import Derived.Lib.SliceRun
import Derived.Deep.RegionWith
import Derived.Test.YtkkmoplijicmpaeDoorAll
import Derived.Deep.RegionHeld3
namespace Go.Proofs.YtkkmoplijicmpaeDoor
open Go.RowKit
set_option linter.unusedVariables false

/-! ## A list of reports in memory -/
structure R5o where
  r : Rr
  a : Option Addr
  c : Nat
abbrev R5o.cv (o : R5o) : Value := .slice o.a o.r.clm.length o.c
def rpc (o : R5o) : List Value := [.int .i64 o.r.ser, .int .i64 o.r.chk, .int .i64 o.r.upp, .int .i64 o.r.low, o.cv]
def rpC (os : List R5o) : List Value := os.flatMap rpc
theorem rpC_push (os : List R5o) (o : R5o) : rpC (os ++ [o]) = rpC os ++ rpc o := by unfold rpC; simp
theorem rpC_at : ∀ {os : List R5o} {i : Nat} {o : R5o}, os[i]? = some o → ∀ j u, (rpc o)[j]? = some u → (rpC os)[i * 5 + j]? = some u
  | [], i, o, hi, j, u, hj => by simp at hi
  | p :: os, 0, o, hi, j, u, hj => by
    have hj2 : j < 5 := (List.getElem?_eq_some_iff.mp hj).1
    simp at hi
    subst hi
    unfold rpC
    rw [List.flatMap_cons, List.getElem?_append_left (by simp [rpc]; omega)]
    simpa using hj
  | p :: os, i + 1, o, hi, j, u, hj => by
    have ih := rpC_at (os := os) (i := i) (by simpa using hi) j u hj
    unfold rpC at ih ⊢
    rw [List.flatMap_cons, List.getElem?_append_right (by simp [rpc]; omega), ← ih]
    congr 1
    simp [rpc]
    omega
/-- Each report's claims lie in a block of their own. -/
structure R5 (w : World) (base : Nat) (v : Value) (os : List R5o) : Prop where
  row : w.ownsRow base 75 5 v os.length (rpC os)
  own : ∀ (i : Nat) o, os[i]? = some o → C.SOwn w base o.cv o.r.clm
  sep : ∀ (i j : Nat) o p g, os[i]? = some o → os[j]? = some p → o.cv.ownBlock = some g → p.cv.ownBlock = some g → i = j
  off : ∀ (i : Nat) o g, os[i]? = some o → o.cv.ownBlock = some g → v.ownBlock ≠ some g
theorem R5.start (w : World) (base : Nat) : R5 w base (.slice none 0 0) [] :=
  ⟨World.ownsRow_nil _ _ _ _, fun i o h => by simp at h, fun i j o p g h => by simp at h, fun i o g h => by simp at h⟩
theorem R5.same {w w' : World} {base : Nat} {v : Value} {os : List R5o} (h : R5 w base v os) (hr : ∀ g, v.ownBlock = some g → w'.heap[g]? = w.heap[g]?) (ho : ∀ (i : Nat) o g, os[i]? = some o → o.cv.ownBlock = some g → w'.heap[g]? = w.heap[g]?) : R5 w' base v os :=
  ⟨C.own_blk2 h.row hr, fun i o hi => (h.own i o hi).blk2 (fun g hg => ho i o g hi hg), h.sep, h.off⟩
theorem R5.below {w w' : World} {base : Nat} {v : Value} {os : List R5o} (h : R5 w base v os) (hb : Below w.heap.size w w') : R5 w' base v os :=
  h.same (fun g hg => hb.block g (h.row.lt g hg).2) (fun i o g hi hg => hb.block g ((h.own i o hi).lt g hg).2)
theorem R5.lower {w : World} {base base' : Nat} {v : Value} {os : List R5o} (h : R5 w base v os) (hb : base' ≤ base) : R5 w base' v os :=
  ⟨own_low5 h.row hb, fun i o hi => own_low5 (h.own i o hi) hb, h.sep, h.off⟩
/-- One report more: its claims lie in a block that is new, and the list grows. -/
theorem R5.push {w w1 w2 : World} {lo : Nat} {v v' : Value} {os : List R5o} (h : R5 w lo v os) (hlo : lo ≤ w.heap.size) (hb : Below w.heap.size w w1) (o : R5o)
    (hs : C.SOwn w1 w.heap.size o.cv o.r.clm) (hg : w1.grownBy w2 v.ownBlock) (hr : w2.ownsRow lo 75 5 v' (os.length + 1) (rpC os ++ rpc o)) (hf : ∀ j, v'.ownBlock = some j → v.ownBlock = some j ∨ w1.heap.size ≤ j) : R5 w2 lo v' (os ++ [o]) := by
  have hvlt : ∀ k, v.ownBlock = some k → k < w.heap.size := fun k hk => (h.row.lt k hk).2
  have hz := hb.size
  have hs2 : C.SOwn w2 w.heap.size o.cv o.r.clm := hs.blk2 (fun g hgb => hg.block g (hs.lt g hgb).2 (fun e => by have := hvlt g e.symm; have := (hs.lt g hgb).1; omega))
  have hold : ∀ (i : Nat) p, os[i]? = some p → C.SOwn w2 lo p.cv p.r.clm := fun i p hp => (h.own i p hp).blk2 (fun g hgb => (hg.block g (Nat.lt_of_lt_of_le ((h.own i p hp).lt g hgb).2 hz) (fun e => h.off i p g hp hgb e.symm)).trans (hb.block g ((h.own i p hp).lt g hgb).2))
  have get : ∀ (i : Nat) p, (os ++ [o])[i]? = some p → os[i]? = some p ∨ (i = os.length ∧ p = o) := fun i p hp => by
    rcases Nat.lt_or_ge i os.length with q | q
    · rw [List.getElem?_append_left q] at hp; exact .inl hp
    · have e : i = os.length := by have := (List.getElem?_eq_some_iff.mp hp).1; simp at this; omega
      subst e
      rw [List.getElem?_append_right (Nat.le_refl _)] at hp
      simp at hp
      exact .inr ⟨rfl, hp.symm⟩
  refine ⟨by rw [List.length_append, rpC_push]; exact hr, fun i p hp => ?_, fun i j p q g hp hq h1 h2 => ?_, fun i p g hp hgb e => ?_⟩
  · rcases get i p hp with a | ⟨_, rfl⟩
    · exact hold i p a
    · exact own_low5 hs2 hlo
  · rcases get i p hp with a | ⟨rfl, rfl⟩ <;> rcases get j q hq with b | ⟨rfl, rfl⟩
    · exact h.sep i j p q g a b h1 h2
    · have := ((h.own i p a).lt g h1).2; have := (hs.lt g h2).1; omega
    · have := ((h.own j q b).lt g h2).2; have := (hs.lt g h1).1; omega
    · rfl
  · rcases get i p hp with a | ⟨rfl, rfl⟩
    · rcases hf g e with c | c
      · exact h.off i p g a hgb c
      · have := ((h.own i p a).lt g hgb).2; omega
    · rcases hf g e with c | c
      · have := hvlt g c; have := (hs.lt g hgb).1; omega
      · have := (hs.lt g hgb).2; omega

/-- Reports that lie somewhere. -/
def RL5 (w : World) (a : Option Addr) (rs : List Rr) : Prop := rs = [] ∨ ∃ g off, a = some ⟨g, off, none⟩ ∧ ∀ (i : Nat) r, rs[i]? = some r → ∃ ca cc, CIn w (.slice ca r.clm.length cc) r.clm ∧ w.cell? ⟨g, off + i * 5, none⟩ = some (.int .i64 r.ser) ∧ w.cell? ⟨g, off + i * 5 + 1, none⟩ = some (.int .i64 r.chk) ∧ w.cell? ⟨g, off + i * 5 + 2, none⟩ = some (.int .i64 r.upp) ∧ w.cell? ⟨g, off + i * 5 + 3, none⟩ = some (.int .i64 r.low) ∧ w.cell? ⟨g, off + i * 5 + 4, none⟩ = some (.slice ca r.clm.length cc)
theorem RL5.below {w w' : World} {a : Option Addr} {rs : List Rr} (h : RL5 w a rs) (hb : Below w.heap.size w w') : RL5 w' a rs := by
  rcases h with h | ⟨g, off, rfl, h⟩
  · exact .inl h
  · refine .inr ⟨g, off, rfl, fun i r hr => ?_⟩
    obtain ⟨ca, cc, h1, h2, h3, h4, h5, h6⟩ := h i r hr
    exact ⟨ca, cc, h1.below hb, cell_below h2 hb, cell_below h3 hb, cell_below h4 hb, cell_below h5 hb, cell_below h6 hb⟩
theorem cin_own {w : World} {base : Nat} {v : Value} {l : List (Int × Int)} (h : C.SOwn w base v l) (hl : l.length ≤ 1048576) : CIn w v l := by
  obtain ⟨a, c, rfl⟩ := h.shape
  refine ⟨⟨a, c, rfl, ?_⟩, hl⟩
  by_cases h0 : l = []
  · exact .inl h0
  · obtain ⟨g, cap, hv⟩ := h.some2 (List.length_pos_iff.mpr h0)
    simp only [Value.slice.injEq] at hv
    obtain ⟨rfl, _, rfl⟩ := hv
    refine .inr ⟨g, 0, rfl, fun i p hp => ?_⟩
    have := h.cells2 hp
    rw [Nat.zero_add]
    exact ⟨this.1, this.2.1⟩
theorem R5.rl {w : World} {base : Nat} {v : Value} {os : List R5o} (h : R5 w base v os) (hs : ∀ o ∈ os, o.r.clm.length ≤ 1048576) : ∃ a c, v = .slice a (os.map R5o.r).length c ∧ RL5 w a (os.map R5o.r) := by
  obtain ⟨a, c, rfl⟩ := own_sl5 h.row
  refine ⟨a, c, by rw [List.length_map], ?_⟩
  by_cases h0 : os = []
  · subst h0; exact .inl rfl
  · have hl : 0 < os.length := List.length_pos_iff.mpr h0
    obtain ⟨g, cap, hv⟩ := C.own_some h.row hl
    simp only [Value.slice.injEq] at hv
    obtain ⟨rfl, _, rfl⟩ := hv
    refine .inr ⟨g, 0, rfl, fun i r hr => ?_⟩
    rw [List.getElem?_map] at hr
    obtain ⟨o, ho, rfl⟩ := Option.map_eq_some_iff.mp hr
    have hi : i < os.length := (List.getElem?_eq_some_iff.mp ho).1
    refine ⟨o.a, o.c, cin_own (h.own i o ho) (hs o (List.mem_of_getElem? ho)), ?_, ?_, ?_, ?_, ?_⟩ <;> rw [Nat.zero_add]
    · rw [show i * 5 = i * 5 + 0 from rfl, h.row.cellAt _ (by omega)]; exact rpC_at ho 0 _ rfl
    · rw [h.row.cellAt _ (by omega)]; exact rpC_at ho 1 _ rfl
    · rw [h.row.cellAt _ (by omega)]; exact rpC_at ho 2 _ rfl
    · rw [h.row.cellAt _ (by omega)]; exact rpC_at ho 3 _ rfl
    · rw [h.row.cellAt _ (by omega)]; exact rpC_at ho 4 _ rfl

end Go.Proofs.YtkkmoplijicmpaeDoor

namespace Go.Proofs.YtkkmoplijicmpaeDoor
open Go.RowKit
set_option linter.unusedVariables false

theorem cin_src {w : World} {g off n c : Nat} {l : List (Int × Int)} (h : CIn w (.slice (some ⟨g, off, none⟩) n c) l) : ∀ k u, (l.flatMap C.spc)[k]? = some u → w.cell? ((⟨g, off, none⟩ : Addr).add k) = some u := by
  intro k u hk
  have hl := (List.getElem?_eq_some_iff.mp hk).1
  rw [C.spc_len] at hl
  obtain ⟨p, hp⟩ : ∃ p, l[k / 2]? = some p := ⟨l[k / 2], List.getElem?_eq_getElem (by omega)⟩
  obtain ⟨g', off', ha, c0, c1⟩ := h.at hp
  cases ha
  obtain ⟨q1, q2⟩ := C.spc_get l (k / 2) p hp
  rcases Nat.mod_two_eq_zero_or_one k with e | e
  · have e2 : k = k / 2 * 2 := by omega
    rw [e2] at hk ⊢
    rw [q1] at hk
    cases hk
    rw [add_n5]
    exact c0
  · have e2 : k = k / 2 * 2 + 1 := by omega
    rw [e2] at hk ⊢
    rw [q2] at hk
    cases hk
    rw [add_n5]
    exact c1

set_option maxHeartbeats 4000000 in
/-- A copy of a list. -/
theorem clone5_some (g off c n : Nat) (l : List (Int × Int)) (w : World) (h : CIn w (.slice (some ⟨g, off, none⟩) n c) l) (hn : l.length = n) (hp : 0 < l.length) :
    Calls Tryd.prog 64 #[.slice (some ⟨g, off, none⟩) n c] w fun e w' => ∃ v, e = .returned v ∧ C.SOwn w' w.heap.size v l ∧ Below w.heap.size w w' := by
  subst hn
  obtain ⟨i0, hi, hz0, hz1, hz2⟩ := info_parts C.Tryd.info_span
  have hm := h.small
  have HSr : Hid (∀ W, Below w.heap.size w W → ∀ k u, (l.flatMap C.spc)[k]? = some u → W.cell? ((⟨g, off, none⟩ : Addr).add k) = some u) := fun W hW => cin_src (h.below hW)
  have q22 : ∀ (w : World) (a : Option Addr) (n c n' c' : Nat), (binOp .eql 26 (.slice a n c) (.slice none n' c')).run Tryd.prog w = .ok (.bool a.isNone) w := fun w a n c n' c' => Lib.run_eql_slice_nil w _ _ a n c n' c' Tryd.underlying26
  clear h
  go_enter Tryd.func64, Tryd.ntmps64
  have HO : Hid ((w.alloc (.cells #[] 36)).ownsRow w.heap.size 36 2 (.slice (some ⟨w.heap.size, 0, none⟩) 0 0) 0 []) := ⟨rfl, .inr ⟨w.heap.size, 0, #[], rfl, Nat.le_refl _, heap_alloc_new' _ _, Nat.le_refl _, by unfold maxLen; omega, rfl, rfl⟩⟩
  have HB0 : Hid (Below w.heap.size w (w.alloc (.cells #[] 36))) := (Below.refl _ _).alloc (Nat.le_refl _) _
  go_wp2_with (at_builtin; refine wpList_append_own_at _ rfl _ _ 26 rfl w.heap.size 36 i0 (.agg #[.int .i64 0, .int .i64 0]) 2 16 Tryd.underlying26 hi hz0 hz1 hz2 rfl (by decide) _ _ _ rfl HO.out ⟨g, off, none⟩ l.length c (l.flatMap C.spc) rfl (by rw [C.spc_len]) (HSr.out _ HB0.out) ?c2 ?c3 ?c4 ?c5 ?_)
  case c2 => intro v hv; obtain ⟨p, _, hp⟩ := List.mem_flatMap.mp hv; simp [C.spc] at hp; rcases hp with rfl | rfl <;> rfl
  case c3 => unfold maxLen; omega
  case c4 => omega
  case c5 => simp
  intro vo w9 hown9 hgrow9 _ _
  have HS9 : Hid (C.SOwn w9 w.heap.size vo l) := by unfold Hid C.SOwn; simpa using hown9
  have HB9 : Hid (Below w.heap.size w w9) := HB0.out.grown hgrow9 (by simp) (fun k e => by simp [Value.ownBlock] at e; omega)
  obtain ⟨a9, c9, hvo⟩ := HS9.out.shape
  subst hvo
  clear hown9 hgrow9 HO HB0
  go_wp2
  go_ret
  exact ⟨_, rfl, HS9.out, HB9.out⟩

end Go.Proofs.YtkkmoplijicmpaeDoor

namespace Go.Proofs.YtkkmoplijicmpaeDoor
open Go.RowKit
set_option linter.unusedVariables false
set_option linter.unusedSimpArgs false

/-- The cells of a report. -/
abbrev rpA (r : Rr) (n : Nat) (a : Option Addr) (c : Nat) : Array Value := #[.int .i64 r.ser, .int .i64 r.chk, .int .i64 r.upp, .int .i64 r.low, .slice a n c]

set_option maxRecDepth 100000 in
set_option maxHeartbeats 4000000 in
/-- Two reports that say the same: Same says so. -/
theorem same5_eq (r : Rr) (a b : Option Addr) (n ca cb : Nat) (w : World) (hn : r.clm.length = n) (hA : CIn w (.slice a n ca) r.clm) (hB : CIn w (.slice b n cb) r.clm) :
    Calls Tryd.prog 40 #[.agg (rpA r n a ca), .agg (rpA r n b cb)] w fun e w' => e = .returned (.bool true) ∧ Below w.heap.size w w' := by
  obtain ⟨W, hW⟩ : ∃ W, (w.alloc (.cells (rpA r n a ca) 75)).alloc (.cells (rpA r n b cb) 75) = W := ⟨_, rfl⟩
  have hbW : Below w.heap.size w W := by rw [← hW]; exact ((Below.refl _ _).alloc (Nat.le_refl _) _).alloc (by simp) _
  have HS := sameSpans_gen _ _ _ _ W (hA.below hbW) (hB.below hbW)
  have HBW : Hid (Below w.heap.size w W) := hbW
  have HWe : Hid ((w.alloc (.cells (rpA r n a ca) 75)).alloc (.cells (rpA r n b cb) 75) = W) := hW
  have hz : W.heap.size = w.heap.size + 2 := by rw [← hW]; simp
  have hb0 : W.heap[w.heap.size]? = some (.cells (rpA r n a ca) 75 (0, 0)) := by rw [← hW]; exact al_old (al_new _ _)
  have hb1 : W.heap[w.heap.size + 1]? = some (.cells (rpA r n b cb) 75 (0, 0)) := by rw [← hW, show w.heap.size + 1 = (w.alloc (.cells (rpA r n a ca) 75)).heap.size by simp]; exact al_new _ _
  have HC : Hid (∀ W2, Below W.heap.size W W2 → ∀ j u, (rpA r n a ca)[j]? = some u → W2.cell? ⟨w.heap.size, j, none⟩ = some u) := fun W2 h2 j u hj => by
    rw [cell_of_row _ _ _ _ _ _ ((h2.block w.heap.size (by omega)).trans hb0)]; exact hj
  have HD : Hid (∀ W2, Below W.heap.size W W2 → ∀ j u, (rpA r n b cb)[j]? = some u → W2.cell? ⟨w.heap.size + 1, j, none⟩ = some u) := fun W2 h2 j u hj => by
    rw [cell_of_row _ _ _ _ _ _ ((h2.block (w.heap.size + 1) (by omega)).trans hb1)]; exact hj
  obtain ⟨s0, s1, s2, s3, cl⟩ := r
  clear hW hbW hz hb0 hb1 hA hB hn
  go_enter Tryd.func40, Tryd.ntmps40
  go_wp2_with fail
  rw [HWe.out]
  refine HS.mono ?_
  rintro e w2 ⟨q, rfl, hq, hb2⟩
  obtain rfl : q = true := hq (by trivial)
  have c0 := HC.out w2 hb2 0 _ rfl
  have c1 := HC.out w2 hb2 1 _ rfl
  have c2 := HC.out w2 hb2 2 _ rfl
  have c3 := HC.out w2 hb2 3 _ rfl
  have d0 := HD.out w2 hb2 0 _ rfl
  have d1 := HD.out w2 hb2 1 _ rfl
  have d2 := HD.out w2 hb2 2 _ rfl
  have d3 := HD.out w2 hb2 3 _ rfl
  have HB2 : Hid (Below w.heap.size w w2) := HBW.out.trans (hb2.mono HBW.out.size)
  clear hb2 hq HC HD HS
  go_wp2
  go_ret
  exact ⟨rfl, HB2.out⟩

set_option maxRecDepth 100000 in
set_option maxHeartbeats 4000000 in
/-- Two lists that say the same: SameAll says so. -/
theorem sameAll5_eq (l : List Rr) (a b : Option Addr) (n ca cb : Nat) (w : World) (hn : l.length = n) (hm : n ≤ 1048576) (ha : RL5 w a l) (hb : RL5 w b l) :
    Calls Tryd.prog 27 #[.slice a n ca, .slice b n cb] w fun e w' => e = .returned (.bool true) ∧ Below w.heap.size w w' := by
  have HA : Hid (RL5 w a l) := ha
  have HB : Hid (RL5 w b l) := hb
  have HN : Hid (l.length = n) := hn
  clear ha hb hn
  go_enter Tryd.func27, Tryd.ntmps27
  go_wp2_with fail
  go_loopw [5] (fun i wr => ∃ k : Nat, k ≤ n ∧ i = .int .i64 k ∧ Below w.heap.size w wr) (fun i _ => n - (intOf i).toNat)
  case atStart => exact ⟨0, Nat.zero_le _, rfl, Below.refl _ _⟩
  case round =>
    obtain ⟨k, hk, rfl, hbw⟩ := hrel
    have HBW : Hid (Below w.heap.size w wr) := hbw
    by_cases hlt : k < n
    · have hkl : k < l.length := by rw [HN.out]; exact hlt
      obtain ⟨r, hr⟩ : ∃ r, l[k]? = some r := ⟨l[k], List.getElem?_eq_getElem hkl⟩
      rcases HA.out.below hbw with q | ⟨g, off, rfl, hA⟩
      · subst q; simp at hr
      rcases HB.out.below hbw with q | ⟨g', off', rfl, hB⟩
      · subst q; simp at hr
      obtain ⟨xa, xc, h1, c0, c1, c2, c3, c4⟩ := hA k r hr
      obtain ⟨ya, yc, h2, d0, d1, d2, d3, d4⟩ := hB k r hr
      have HS : Hid (∀ W, Below wr.heap.size wr W → Calls Tryd.prog 40 #[.agg (rpA r r.clm.length xa xc), .agg (rpA r r.clm.length ya yc)] W fun e w' => e = .returned (.bool true) ∧ Below W.heap.size W w') := fun W hW => same5_eq r xa ya _ xc yc W rfl (h1.below hW) (h2.below hW)
      have HBN : Hid (∀ W W', Below wr.heap.size wr W → Below W.heap.size W W' → Below w.heap.size w W') := fun W W' h1 h2 => (HBW.out.trans (h1.mono HBW.out.size)).trans (h2.mono (by have := HBW.out.size; have := h1.size; omega))
      have hlt' : (k : Int) < (n : Int) := by omega
      clear hA hB h1 h2 hbw hr
      generalize r.clm.length = ns at *
      go_upto_region 6 with fail
      go_region_with (go_at_call 40; refine (HS.out _ (by first | exact Below.refl _ _ | exact ⟨rfl, rfl, rfl, Nat.le_refl _, fun _ _ => rfl⟩)).mono ?_; rintro e w2 ⟨rfl, hb2⟩; have HB2 : Hid (Below w.heap.size w w2) := HBN.out _ _ (by first | exact Below.refl _ _ | exact ⟨rfl, rfl, rfl, Nat.le_refl _, fun _ _ => rfl⟩) hb2; clear hb2)
      all_goals
        clear c0 c1 c2 c3 c4 d0 d1 d2 d3 d4 HS HBN
        go_wp2
        go_roundw
        case rel => exact ⟨k + 1, by omega, by go_num, HB2.out⟩
        case measure => simp [intOf]; omega
    · have hlt' : ¬ (k : Int) < (n : Int) := by omega
      clear hbw
      go_wp2
      go_ret
      exact ⟨rfl, HBW.out⟩
end Go.Proofs.YtkkmoplijicmpaeDoor

namespace Go.Proofs.YtkkmoplijicmpaeDoor
open Go.RowKit
set_option linter.unusedVariables false
set_option linter.unusedSimpArgs false

/-! ## The reference's Print, of a report's segment that may be -/
end Go.Proofs.YtkkmoplijicmpaeDoor

namespace Go.Proofs.YtkkmoplijicmpaeDoor
open Go.RowKit
set_option linter.unusedVariables false
set_option linter.unusedSimpArgs false

set_option maxHeartbeats 4000000 in
theorem rqClaims_ok (a : Option Addr) (n c : Nat) (l : List (Int × Int)) (lo up : Int) (w : World) (h : CIn w (.slice a n c) l) (hn : l.length = n) (h1 : 1 ≤ n) (h2 : n ≤ 1000) (hc : clOk up lo l = true) :
    Calls Tryd.prog 122 #[.slice a n c, .int .i64 lo, .int .i64 up] w fun e w' => e = .returned (.bool true) ∧ Below w.heap.size w w' := by
  have HC : Hid (CIn w (.slice a n c) l) := h
  have HN : Hid (l.length = n) := hn
  have HK : Hid (clOk up lo l = true) := hc
  have hn1 : ¬ (n : Int) < 1 := by omega
  have hn2 : ¬ (1000 : Int) < (n : Int) := by omega
  clear h hn hc
  go_enter Tryd.func122, Tryd.ntmps122
  go_wp2_with fail
  go_loopw [7] (fun i wr => ∃ k : Nat, k ≤ n ∧ i = .int .i64 k ∧ Below w.heap.size w wr) (fun i _ => n - (intOf i).toNat)
  case atStart => exact ⟨0, Nat.zero_le _, rfl, Below.refl _ _⟩
  case round =>
    obtain ⟨k, hk, rfl, hbw⟩ := hrel
    have HBW : Hid (Below w.heap.size w wr) := hbw
    by_cases hlt : k < n
    · obtain ⟨p, hp⟩ := get_one l k (by rw [HN.out]; exact hlt)
      obtain ⟨g, off, rfl, q1, q2⟩ := (HC.out.below hbw).at hp
      obtain ⟨p1, p2, p3, p4⟩ := clOk_at HK.out k p hp
      have hlt' : (k : Int) < (n : Int) := by omega
      by_cases hk0 : k = 0
      · subst hk0
        have d1 : decide (p.1 < lo) = false := by simp; omega
        have d2 : decide (p.2 ≤ p.1) = false := by simp; omega
        have d3 : decide (up < p.2) = false := by simp; omega
        clear p4 hp hbw
        simp only [Nat.zero_mul, Nat.add_zero] at q1 q2
        go_wp2_with fail
        go_quiet (fail)
        go_wp2
        go_roundw
        case rel => exact ⟨1, by omega, by go_num, below_drewN' HBW.out _⟩
        case measure => simp [intOf]; omega
      · obtain ⟨q, hq⟩ := get_one l (k - 1) (by rw [HN.out]; omega)
        obtain ⟨g', off', he, q3, q4⟩ := (HC.out.below hbw).at hq
        cases he
        have p5 := p4 q hq (by omega)
        have d1 : decide (p.1 < lo) = false := by simp; omega
        have d2 : decide (p.2 ≤ p.1) = false := by simp; omega
        have d3 : decide (up < p.2) = false := by simp; omega
        have d4 : decide (p.1 ≤ q.2) = false := by simp; omega
        obtain ⟨j, rfl⟩ : ∃ j, k = j + 1 := ⟨k - 1, by omega⟩
        rw [Nat.add_sub_cancel] at q3 q4
        have hwj : IntKind.i64.wrap ((j : Int) + 1 - 1) = (j : Int) := by rw [IntKind.wrap_i64]; omega
        have hj1 : (j : Int) < (n : Int) := by omega
        have hj0 : (0 : Int) < (j : Int) + 1 := by omega
        clear p4 hp hq hbw hk0
        go_wp2_with fail
        go_quiet (fail)
        go_wp2
        go_roundw
        case rel => exact ⟨j + 1 + 1, by omega, by go_num, below_drewN' HBW.out _⟩
        case measure => simp [intOf]; omega
    · have hlt' : ¬ (k : Int) < (n : Int) := by omega
      clear hbw
      go_wp2
      go_ret
      exact ⟨rfl, HBW.out⟩
end Go.Proofs.YtkkmoplijicmpaeDoor

namespace Go.Proofs.YtkkmoplijicmpaeDoor
open Go.RowKit
set_option linter.unusedVariables false
set_option linter.unusedSimpArgs false

/-- The cells of a report's segment. -/
abbrev rsC (k : Qu) (r : Rr) (a : Option Addr) (n c : Nat) : Array Value := #[.int .i64 8, .int .i64 k.org, .int .i64 k.num, .slice none 0 0, .slice none 0 0, .int .i64 0, .int .i64 0, .slice none 0 0, .int .i64 r.chk, .int .i64 r.ser, .int .i64 r.upp, .int .i64 r.low, .slice a n c, .int .i64 0]
end Go.Proofs.YtkkmoplijicmpaeDoor

namespace Go.Proofs.YtkkmoplijicmpaeDoor
open Go.RowKit
set_option linter.unusedVariables false
set_option linter.unusedSimpArgs false

end Go.Proofs.YtkkmoplijicmpaeDoor
