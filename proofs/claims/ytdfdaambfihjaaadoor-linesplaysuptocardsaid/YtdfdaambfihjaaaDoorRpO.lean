import Derived.Test.YtdfdaambfihjaaaDoorGat
import Derived.Maps.AppendAt
import Derived.Deep.CutRange
namespace Go.Proofs.YtdfdaambfihjaaaDoor.C
open Go.RowKit Go.Shelf
set_option linter.unusedVariables false

/-! ## lanternlaw02.ownedSpans: rows of spans, each in a block of its own -/
theorem spc_put2 : ∀ (L : List Sp) (k : Nat) (a b : Int), ((L.flatMap spc).set (k * 2) (.int .i64 a)).set (k * 2 + 1) (.int .i64 b) = (L.set k (a, b)).flatMap spc
  | [], k, a, b => by simp
  | s :: r, 0, a, b => by simp [spc]
  | s :: r, k + 1, a, b => by
    have := spc_put2 r k a b
    rw [List.flatMap_cons, List.set_cons_succ, List.flatMap_cons, ← this]
    rw [List.set_append_right _ _ (by simp [spc]; omega), List.set_append_right _ _ (by simp [spc]; omega)]
    congr 1
    simp only [spc, List.length_cons, List.length_nil]
    rw [show (k + 1) * 2 - (0 + 1 + 1) = k * 2 from by omega, show (k + 1) * 2 + 1 - (0 + 1 + 1) = k * 2 + 1 from by omega]

theorem SOwn.len2 {W : World} {base n cap : Nat} {a : Option Addr} {L : List Sp} (h : SOwn W base (.slice a n cap) L) : L.length = n := by
  obtain ⟨a', c', hv⟩ := h.shape
  simp only [Value.slice.injEq] at hv; exact hv.2.1.symm
theorem SOwn.put2 {W : World} {base g cap n k : Nat} {L : List Sp} (h : SOwn W base (.slice (some ⟨g, 0, none⟩) n cap) L) (a b : Int) : SOwn ((W.setCell ⟨g, k * 2, none⟩ (.int .i64 a)).setCell ⟨g, k * 2 + 1, none⟩ (.int .i64 b)) base (.slice (some ⟨g, 0, none⟩) n cap) (L.set k (a, b)) := by
  have hn := h.len2
  subst hn
  have h1 := (World.ownsRow.stored h (k * 2) (.int .i64 a)).1
  have h2 := (World.ownsRow.stored h1 (k * 2 + 1) (.int .i64 b)).1
  rw [spc_put2] at h2
  unfold SOwn
  rw [List.length_set]
  exact h2
theorem SOwn.cells2 {W : World} {base g cap n k : Nat} {L : List Sp} {p : Sp} (h : SOwn W base (.slice (some ⟨g, 0, none⟩) n cap) L) (hk : L[k]? = some p) : W.cell? ⟨g, k * 2, none⟩ = some (.int .i64 p.1) ∧ W.cell? ⟨g, k * 2 + 1, none⟩ = some (.int .i64 p.2) ∧ W.frozen? ⟨g, k * 2, none⟩ = false ∧ W.frozen? ⟨g, k * 2 + 1, none⟩ = false := by
  have hn := h.len2
  subst hn
  have hkl : k < L.length := (List.getElem?_eq_some_iff.mp hk).1
  obtain ⟨q1, q2⟩ := spc_get L k p hk
  exact ⟨(World.ownsRow.cellAt h _ (by omega)).trans q1, (World.ownsRow.cellAt h _ (by omega)).trans q2, World.ownsRow.frozenAt h _, World.ownsRow.frozenAt h _⟩
theorem SOwn.some2 {w : World} {base : Nat} {v : Value} {l : List Sp} (h : SOwn w base v l) (hn : 0 < l.length) : ∃ g cap, v = .slice (some ⟨g, 0, none⟩) l.length cap := own_some h hn
theorem SOwn.blk2 {w w' : World} {base : Nat} {v : Value} {l : List Sp} (h : SOwn w base v l) (hb : ∀ g, v.ownBlock = some g → w'.heap[g]? = w.heap[g]?) : SOwn w' base v l := by
  obtain ⟨h1, h2⟩ := h
  refine ⟨h1, ?_⟩
  rcases h2 with h2 | ⟨g, cap, cur, rfl, hg, hh, r⟩
  · exact .inl h2
  · exact .inr ⟨g, cap, cur, rfl, hg, (hb g rfl).trans hh, r⟩

/-- What is nobody's stays. -/
structure Kt (own : Nat → Nat) (w w' : World) : Prop where
  os : w'.os = w.os
  tape : w'.tape = w.tape
  output : w'.output = w.output
  size : w.heap.size ≤ w'.heap.size
  block : ∀ g, g < w.heap.size → own g = 0 → w'.heap[g]? = w.heap[g]?
theorem Kt.refl (own : Nat → Nat) (w : World) : Kt own w w := ⟨rfl, rfl, rfl, Nat.le_refl _, fun _ _ _ => rfl⟩
theorem Kt.grown {own : Nat → Nat} {w0 w w' : World} {row : Option Nat} (h : Kt own w0 w) (hg : w.grownBy w' row) (hr : ∀ k, row = some k → k < w0.heap.size → own k ≠ 0) : Kt own w0 w' :=
  ⟨hg.os.trans h.os, hg.tape.trans h.tape, hg.output.trans h.output, Nat.le_trans h.size hg.size, fun g hgl h0 => (hg.block g (Nat.lt_of_lt_of_le hgl h.size) (fun e => hr g e.symm hgl h0)).trans (h.block g hgl h0)⟩
def mkS (i : Nat) : Sp := (-1 - (i : Int), -1 - (i : Int))
/-- Rows of spans: their values, what they hold, whose their blocks are. -/
structure Lo (own : Nat → Nat) (w : World) (os : List Value) (Cs : Nat → List Sp) (c : Nat) : Prop where
  kr : ∀ (j : Nat) v, c ≤ j → os[j]? = some v → SOwn w 0 v (Cs j)
  tk : ∀ (j : Nat) v g, c ≤ j → os[j]? = some v → v.ownBlock = some g → own g = 10 + j
section
variable {own own' : Nat → Nat} {w w' : World} {os : List Value} {Cs : Nat → List Sp} {c : Nat}
theorem Lo.keep {row : Option Nat} {t : Nat} (h : Lo own w os Cs c) (hg : w.grownBy w' row) (ho : ∀ g, g < w.heap.size → own' g = own g) (hr : ∀ g, row = some g → own g = t) (hc : ∀ j, c ≤ j → t ≠ 10 + j) : Lo own' w' os Cs c :=
  ⟨fun j v hj hv => (h.kr j v hj hv).blk2 (fun g hgb => hg.block g ((h.kr j v hj hv).lt g hgb).2 (fun e => hc j hj ((hr g e.symm).symm.trans (h.tk j v g hj hv hgb)))), fun j v g hj hv hgb => (ho g ((h.kr j v hj hv).lt g hgb).2).trans (h.tk j v g hj hv hgb)⟩
theorem Lo.store (h : Lo own w os Cs 0) {j k g n cap : Nat} (hj : os[j]? = some (.slice (some ⟨g, 0, none⟩) n cap)) (a b : Int) :
    Lo own ((w.setCell ⟨g, k * 2, none⟩ (.int .i64 a)).setCell ⟨g, k * 2 + 1, none⟩ (.int .i64 b)) os (fun q => if q = j then (Cs j).set k (a, b) else Cs q) 0 := by
  have hg : w.grownBy ((w.setCell ⟨g, k * 2, none⟩ (.int .i64 a)).setCell ⟨g, k * 2 + 1, none⟩ (.int .i64 b)) (some g) := grown_trans (grown_set _ _ _ _) (grown_set _ _ _ _)
  have ht : own g = 10 + j := h.tk j _ g (Nat.zero_le _) hj rfl
  refine ⟨fun q v hq hv => ?_, h.tk⟩
  by_cases e : q = j
  · subst e
    rw [if_pos rfl]
    rw [hj] at hv
    cases hv
    exact (h.kr q _ hq hj).put2 a b
  · rw [if_neg e]
    exact (h.kr q v hq hv).blk2 (fun g' hg' => hg.block g' ((h.kr q v hq hv).lt g' hg').2 (fun e2 => by
      have e3 : g' = g := Option.some.inj e2
      have := h.tk q v g' hq hv hg'
      rw [e3, ht] at this
      omega))
theorem Lo.next (h : Lo own w os Cs c) : Lo own w os Cs (c + 1) := ⟨fun j v hj => h.kr j v (by omega), fun j v g hj => h.tk j v g (by omega)⟩
end
/-- The row of what has grown. -/
structure Ga (own : Nat → Nat) (w : World) (vL : Value) (VL : List Value) (len : Nat → Nat) : Prop where
  vl : w.ownsRow 0 35 1 vL VL.length VL
  tvl : ∀ g, vL.ownBlock = some g → own g = 5
  kr : ∀ (j : Nat) v, VL[j]? = some v → SOwn w 0 v (List.replicate (len j + 4) (mkS j))
  tk : ∀ (j : Nat) v g, VL[j]? = some v → v.ownBlock = some g → own g = 10 + j
section
variable {own own' : Nat → Nat} {w w' : World} {vL : Value} {VL : List Value} {len : Nat → Nat}
theorem own_blk2 {base n size : Nat} {e : TypeId} {v : Value} {xs : List Value} (h : w.ownsRow base e size v n xs) (hb : ∀ g, v.ownBlock = some g → w'.heap[g]? = w.heap[g]?) : w'.ownsRow base e size v n xs := by
  obtain ⟨h1, h2⟩ := h
  refine ⟨h1, ?_⟩
  rcases h2 with h2 | ⟨g, cap, cur, rfl, hg, hh, r⟩
  · exact .inl h2
  · exact .inr ⟨g, cap, cur, rfl, hg, (hb g rfl).trans hh, r⟩
theorem Ga.keep {row : Option Nat} {t : Nat} (h : Ga own w vL VL len) (hg : w.grownBy w' row) (ho : ∀ g, g < w.heap.size → own' g = own g) (hr : ∀ g, row = some g → own g = t) (h5 : t ≠ 5) (hc : ∀ j, j < VL.length → t ≠ 10 + j) : Ga own' w' vL VL len :=
  ⟨own_blk2 h.vl (fun g hgb => hg.block g (World.ownsRow.lt h.vl g hgb).2 (fun e => h5 ((hr g e.symm).symm.trans (h.tvl g hgb)))), fun g hgb => (ho g (World.ownsRow.lt h.vl g hgb).2).trans (h.tvl g hgb),
    fun j v hv => (h.kr j v hv).blk2 (fun g hgb => hg.block g ((h.kr j v hv).lt g hgb).2 (fun e => hc j (List.getElem?_eq_some_iff.mp hv).1 ((hr g e.symm).symm.trans (h.tk j v g hv hgb)))), fun j v g hv hgb => (ho g ((h.kr j v hv).lt g hgb).2).trans (h.tk j v g hv hgb)⟩
theorem Ga.push {w6 : World} {v6 u : Value} (h : Ga own w vL VL len) (hg : w.grownBy w6 vL.ownBlock) (hv6 : w6.ownsRow 0 35 1 v6 (VL.length + 1) (VL ++ [u])) (hl6 : v6.ownBlock = vL.ownBlock ∨ ∃ g, v6.ownBlock = some g ∧ w.heap.size ≤ g)
    (hu : SOwn w 0 u (List.replicate (len VL.length + 4) (mkS VL.length))) (ht : ∀ g, u.ownBlock = some g → own g = 10 + VL.length) : Ga (fun g => if g < w.heap.size then own g else 5) w6 v6 (VL ++ [u]) len := by
  have ho : ∀ g, g < w.heap.size → (if g < w.heap.size then own g else 5) = own g := fun g hg => if_pos hg
  refine ⟨by rw [List.length_append]; exact hv6, fun g hgb => ?_, fun j v hv => ?_, fun j v g hv hgb => ?_⟩
  · show (if g < w.heap.size then own g else 5) = 5
    rcases hl6 with q | ⟨g', q, q2⟩
    · rw [ho g (World.ownsRow.lt h.vl g (q ▸ hgb)).2]; exact h.tvl g (q ▸ hgb)
    · have e2 : g' = g := Option.some.inj (q.symm.trans hgb)
      rw [if_neg (by omega)]
  · rcases Nat.lt_or_ge j VL.length with q | q
    · rw [List.getElem?_append_left q] at hv
      exact (h.kr j v hv).blk2 (fun g hgb => hg.block g ((h.kr j v hv).lt g hgb).2 (fun e => by have := h.tvl g e.symm; have := h.tk j v g hv hgb; omega))
    · have e : j = VL.length := by
        have := (List.getElem?_eq_some_iff.mp hv).1
        simp at this; omega
      subst e
      rw [List.getElem?_append_right (Nat.le_refl _)] at hv
      simp at hv
      subst hv
      exact hu.blk2 (fun g hgb => hg.block g (hu.lt g hgb).2 (fun e => by have := h.tvl g e.symm; have := ht g hgb; omega))
  · rcases Nat.lt_or_ge j VL.length with q | q
    · rw [List.getElem?_append_left q] at hv
      exact (ho g ((h.kr j v hv).lt g hgb).2).trans (h.tk j v g hv hgb)
    · have e : j = VL.length := by
        have := (List.getElem?_eq_some_iff.mp hv).1
        simp at this; omega
      subst e
      rw [List.getElem?_append_right (Nat.le_refl _)] at hv
      simp at hv
      subst hv
      exact (ho g (hu.lt g hgb).2).trans (ht g hgb)
end
theorem all_marksS {l : List Sp} {n : Nat} {y : Sp} (hl : l.length = n) (h : ∀ q, q < n → l[q]? = some y) : l = List.replicate n y := by
  apply List.ext_getElem?
  intro q
  rw [List.getElem?_replicate]
  by_cases e : q < n
  · rw [if_pos e]; exact h q e
  · rw [if_neg e]; exact List.getElem?_eq_none (by omega)

end Go.Proofs.YtdfdaambfihjaaaDoor.C

namespace Go.Proofs.YtdfdaambfihjaaaDoor.C
open Go.RowKit Go.Shelf
set_option linter.unusedVariables false

theorem Tryd.info_spans5 : (Tryd.prog.info? 35).map (fun i => (i.zero, i.size, i.bytes)) = some (some (.slice none 0 0), 1, 24) := by kernel_rfl
theorem one_new5 (w : World) (a : Value) (t : TypeId) : ∀ j u, [a][j]? = some u → (w.alloc (.cells #[a] t)).cell? ((⟨w.heap.size, 0, none⟩ : Addr).add j) = some u := by
  intro j u hj
  match j, hj with
  | 0, hj => simp at hj; subst hj; simp [Addr.add]
theorem SOwn.app3 {w : World} {base : Nat} {v : Value} {l : List Sp} {p : Sp} (h : w.ownsRow base 91 2 v (l.length + 1) (l.flatMap spc ++ [.int .i64 p.1, .int .i64 p.2])) : SOwn w base v (l ++ [p]) := by
  unfold SOwn
  rw [List.length_append, List.flatMap_append]
  exact h
/-- Where the rows are named. -/
def Nam (own : Nat → Nat) (w : World) (al : Option Addr) (os : List Value) : Prop := os = [] ∨ ∃ gl off, al = some ⟨gl, off, none⟩ ∧ own gl = 0 ∧ ∀ (i : Nat) v, os[i]? = some v → w.cell? ⟨gl, off + i, none⟩ = some v
theorem Nam.at {own : Nat → Nat} {w wr : World} {al : Option Addr} {os : List Value} (h : Nam own w al os) (hk : Kt own w wr) {i : Nat} {v : Value} (hi : os[i]? = some v) : ∃ gl off, al = some ⟨gl, off, none⟩ ∧ wr.cell? ⟨gl, off + i, none⟩ = some v := by
  rcases h with rfl | ⟨gl, off, ha, h0, hc⟩
  · simp at hi
  · have h1 := hc i v hi
    have hlt : gl < w.heap.size := World.block_lt_of_cell? w ⟨gl, off + i, none⟩ h1
    exact ⟨gl, off, ha, (World.cell?_of_block (a := ⟨gl, off + i, none⟩) (hk.block gl hlt h0)).trans h1⟩

set_option maxHeartbeats 32000000 in
set_option maxRecDepth 100000 in
theorem ownedSpans_any (al : Option Addr) (cl : Nat) (own : Nat → Nat) (os : List Value) (C0 : Nat → List Sp) (w : World) (hLo : Lo own w os C0 0) (hNm : Nam own w al os) (hn : os.length ≤ 1048576) (hlc : ∀ j, (C0 j).length ≤ 1048600) :
    Calls Tryd.prog 50 #[.slice al os.length cl] w fun e w' => e = .returned (.bool true) ∧ Kt own w w' := by
  obtain ⟨m, hm⟩ : ∃ m, os.length = m := ⟨_, rfl⟩
  have HM : Hid (os.length = m) := hm
  have HNm : Hid (Nam own w al os) := hNm
  have HLo0 : Hid (Lo own w os C0 0) := hLo
  rw [hm] at hn ⊢
  obtain ⟨len, hlen⟩ : ∃ f : Nat → Nat, (fun j => (C0 j).length) = f := ⟨_, rfl⟩
  have HLen : Hid (∀ j, (C0 j).length = len j) := fun j => by rw [← hlen]
  have HLb : Hid (∀ j, len j ≤ 1048600) := fun j => by rw [← hlen]; exact hlc j
  obtain ⟨i1, hi1, hy0, hy1, hy2⟩ := info_parts Tryd.info_spans5
  obtain ⟨i0, hi0, hz0, hz1, hz2⟩ := info_parts Tryd.info_span
  clear hLo hNm hm hlen hlc
  go_enter Tryd.func50, Tryd.ntmps50
  go_wp2
  go_loopw [3] (fun v wr => ∃ (j : Nat) (Cs : Nat → List Sp), v = .int .i64 j ∧ j ≤ m ∧ Lo own wr os Cs 0 ∧ (∀ q, (Cs q).length = len q) ∧ (∀ q, q < j → Cs q = List.replicate (len q) (mkS q)) ∧ Kt own w wr) (fun v _ => m - (intOf v).toNat)
  case atStart => exact ⟨0, C0, rfl, by omega, HLo0.out, HLen.out, fun q hq => by omega, Kt.refl _ _⟩
  case round =>
    clear HLo0
    obtain ⟨j, Cs, rfl, hj, hLo, hCl, hCm, hK⟩ := hrel
    have HLo : Hid (Lo own wr os Cs 0) := hLo
    have HCl : Hid (∀ q, (Cs q).length = len q) := hCl
    have HCm : Hid (∀ q, q < j → Cs q = List.replicate (len q) (mkS q)) := hCm
    have HK : Hid (Kt own w wr) := hK
    clear hLo hCl hCm hK
    by_cases hjm : j = m
    · subst hjm
      have hz : ¬ (j : Int) < (j : Int) := by omega
      have HL1 : Hid (Lo own wr os (fun q => List.replicate (len q) (mkS q)) 0) := by
        refine ⟨fun q v hq hv => ?_, HLo.out.tk⟩
        have := HLo.out.kr q v hq hv
        rw [HCm.out q (by have := (List.getElem?_eq_some_iff.mp hv).1; have := HM.out; omega)] at this
        exact this
      clear HLo HCl HCm
      go_wp2
      go_loopw [5, 6] (fun v5 v6 wr => ∃ (i : Nat) (VL : List Value) (own4 : Nat → Nat), v6 = .int .i64 i ∧ i ≤ j ∧ VL.length = i ∧ Lo own4 wr os (fun q => List.replicate (len q) (mkS q)) i ∧ Ga own4 wr v5 VL len ∧ Kt own w wr ∧ (∀ g, g < w.heap.size → own4 g = own g)) (fun _ v _ => j - (intOf v).toNat)
      case atStart => exact ⟨0, [], own, rfl, by omega, rfl, HL1.out, ⟨World.ownsRow_nil _ _ _ _, fun g hg => by simp [Value.ownBlock] at hg, fun q v hv => by simp at hv, fun q v g hv => by simp at hv⟩, HK.out, fun _ _ => rfl⟩
      case round =>
        clear HL1 HK
        obtain ⟨i, VL, own4, rfl, hi, hVl, hLo, hGa, hK, ho4⟩ := hrel
        have HVl : Hid (VL.length = i) := hVl
        obtain ⟨aL, cL, hu5⟩ := own_shape hGa.vl
        rw [hVl] at hu5
        subst hu5
        have HLo : Hid (Lo own4 wr os (fun q => List.replicate (len q) (mkS q)) i) := hLo
        have HGa : Hid (Ga own4 wr (.slice aL i cL) VL len) := hGa
        have HK : Hid (Kt own w wr) := hK
        have HO4 : Hid (∀ g, g < w.heap.size → own4 g = own g) := ho4
        clear hVl hLo hGa hK ho4
        by_cases hij : i = j
        · subst hij
          have hzz : ¬ (i : Int) < (i : Int) := by omega
          obtain ⟨Z, hZ⟩ : ∃ Z, wr = Z := ⟨_, rfl⟩
          rw [hZ] at HGa HK ⊢
          clear hZ HLo
          go_wp2
          go_loopw [9] (fun v9 wr => ∃ p : Nat, v9 = .int .i64 p ∧ p ≤ i ∧ wr = Z) (fun v _ => i - (intOf v).toNat)
          case atStart => exact ⟨0, rfl, by omega, rfl⟩
          case round =>
            obtain ⟨p, rfl, hp, rfl⟩ := hrel
            by_cases hpm : p = i
            · subst hpm
              have hz8 : ¬ (p : Int) < (p : Int) := by omega
              go_wp2
              go_ret
              exact ⟨rfl, HK.out⟩
            · have hz8 : (p : Int) < (i : Int) := by omega
              have hwp : IntKind.i64.wrap ((p : Int) + 1) = (p : Int) + 1 := by rw [IntKind.wrap_i64]; omega
              have hwM : IntKind.i64.wrap (-1 - (p : Int)) = -1 - (p : Int) := by rw [IntKind.wrap_i64]; omega
              obtain ⟨u, hu⟩ : ∃ v, VL[p]? = some v := ⟨_, List.getElem?_eq_getElem (by rw [HVl.out]; omega)⟩
              have hkr := HGa.out.kr p u hu
              obtain ⟨gL, cL', eL⟩ := own_some HGa.out.vl (by rw [HVl.out]; omega)
              obtain ⟨rfl, hmm, rfl⟩ : aL = some ⟨gL, 0, none⟩ ∧ i = VL.length ∧ cL = cL' := by simpa using eL
              have e8 : wr.cell? ⟨gL, p, none⟩ = some u := by
                have h7 := HGa.out.vl
                rw [HVl.out] at h7
                exact (World.ownsRow.cellAt h7 p (by omega)).trans hu
              obtain ⟨a8, c8, rfl⟩ := hkr.shape
              obtain ⟨n, hnn⟩ : ∃ n, (List.replicate (len p + 4) (mkS p)).length = n := ⟨_, rfl⟩
              have hnb : n ≤ 1048604 := by rw [← hnn, List.length_replicate]; have := HLb.out p; omega
              rw [hnn] at e8 hkr
              have HKr : Hid (SOwn wr 0 (.slice a8 n c8) (List.replicate (len p + 4) (mkS p))) := hkr
              have HNn : Hid ((List.replicate (len p + 4) (mkS p)).length = n) := hnn
              clear hu hkr eL hmm hnn
              go_wp2
              go_loopw [10] (fun v10 wr' => ∃ q : Nat, v10 = .int .i64 q ∧ q ≤ n ∧ wr' = wr) (fun v _ => n - (intOf v).toNat)
              case atStart => exact ⟨0, rfl, by omega, rfl⟩
              case round =>
                obtain ⟨q, rfl, hq, hwr⟩ := hrel
                subst hwr
                by_cases hqn : q = n
                · subst hqn
                  have hz9 : ¬ (q : Int) < (q : Int) := by omega
                  go_wp2
                  exact ⟨⟨p + 1, by simp, by omega, by first | rfl | trivial⟩, by simp [intOf]; omega⟩
                · have hz9 : (q : Int) < (n : Int) := by omega
                  have hwq : IntKind.i64.wrap ((q : Int) + 1) = (q : Int) + 1 := by rw [IntKind.wrap_i64]; omega
                  obtain ⟨g9, c9, e9⟩ := HKr.out.some2 (by rw [HNn.out]; omega)
                  obtain ⟨rfl, hmm, rfl⟩ : a8 = some ⟨g9, 0, none⟩ ∧ n = (List.replicate (len p + 4) (mkS p)).length ∧ c8 = c9 := by simpa using e9
                  obtain ⟨t0, t1, _, _⟩ := HKr.out.cells2 (k := q) (p := mkS p) (by rw [List.getElem?_replicate, if_pos (by have := HNn.out; rw [List.length_replicate] at this; omega)])
                  simp only [mkS] at t0 t1
                  clear e9 hmm
                  go_wp2
                  exact ⟨⟨q + 1, by simp, by omega, by first | rfl | trivial⟩, by simp [intOf]; omega⟩
        · have hzz : (i : Int) < (j : Int) := by omega
          have hwi : IntKind.i64.wrap ((i : Int) + 1) = (i : Int) + 1 := by rw [IntKind.wrap_i64]; omega
          have hwm : IntKind.i64.wrap (-1 - (i : Int)) = -1 - (i : Int) := by rw [IntKind.wrap_i64]; omega
          obtain ⟨vi, hvi⟩ : ∃ v, os[i]? = some v := ⟨_, List.getElem?_eq_getElem (by rw [HM.out]; omega)⟩
          have hkr := HLo.out.kr i vi (Nat.le_refl _) hvi
          have htk := fun g => HLo.out.tk i vi g (Nat.le_refl _) hvi
          obtain ⟨ai, ci, rfl⟩ := hkr.shape
          obtain ⟨gl, off, rfl, e6⟩ := HNm.out.at HK.out hvi
          obtain ⟨ni, hni⟩ : ∃ n, len i = n := ⟨_, rfl⟩
          have hnb : ni ≤ 1048600 := by rw [← hni]; exact HLb.out i
          rw [List.length_replicate, hni] at hkr htk e6
          have HNi : Hid (len i = ni) := hni
          have HKr : Hid (SOwn wr 0 (.slice ai ni ci) (List.replicate ni (mkS i))) := hkr
          have HTi : Hid (∀ g, (Value.slice ai ni ci).ownBlock = some g → own4 g = 10 + i) := htk
          have HLn : Hid (Lo own4 wr os (fun q => List.replicate (len q) (mkS q)) (i + 1)) := HLo.out.next
          clear HLo hkr htk hvi hni
          go_wp2
          clear e6
          go_loopw [7, 8] (fun v7 v8 wr => ∃ (k : Nat) (own5 : Nat → Nat), v8 = .int .i64 k ∧ k ≤ 4 ∧ Lo own5 wr os (fun q => List.replicate (len q) (mkS q)) (i + 1) ∧ Ga own5 wr (.slice aL i cL) VL len ∧ SOwn wr 0 v7 (List.replicate (ni + k) (mkS i)) ∧ (∀ g, v7.ownBlock = some g → own5 g = 10 + i) ∧ Kt own w wr ∧ (∀ g, g < w.heap.size → own5 g = own g)) (fun _ v _ => 4 - (intOf v).toNat)
          case atStart => exact ⟨0, own4, rfl, by omega, HLn.out, HGa.out, HKr.out, HTi.out, HK.out, HO4.out⟩
          case round =>
            clear HLn HKr HTi HGa HK HO4
            obtain ⟨k, own5, rfl, hk, hLo, hGa, hS7, hT7, hK, ho5⟩ := hrel
            obtain ⟨a7, c7, hu7⟩ := hS7.shape
            obtain ⟨n7, hn7⟩ : ∃ n, ni + k = n := ⟨_, rfl⟩
            rw [List.length_replicate, hn7] at hu7
            subst hu7
            have HN7 : Hid (ni + k = n7 ∧ n7 ≤ 1048604 ∧ (List.replicate (ni + k) (mkS i)).length = n7) := ⟨hn7, by omega, by rw [List.length_replicate]; exact hn7⟩
            have HLo : Hid (Lo own5 wr os (fun q => List.replicate (len q) (mkS q)) (i + 1)) := hLo
            have HGa : Hid (Ga own5 wr (.slice aL i cL) VL len) := hGa
            have HS7 : Hid (SOwn wr 0 (.slice a7 n7 c7) (List.replicate (ni + k) (mkS i))) := hS7
            have HT7 : Hid (∀ g, (Value.slice a7 n7 c7).ownBlock = some g → own5 g = 10 + i) := hT7
            have HK : Hid (Kt own w wr) := hK
            have HO5 : Hid (∀ g, g < w.heap.size → own5 g = own g) := ho5
            clear hLo hGa hS7 hT7 hK ho5 hn7
            by_cases hk4 : k = 4
            · subst hk4
              go_wp2_with (first
                | (at_builtin; refine wpList_append_own_at _ rfl _ _ 52 rfl 0 35 i1 (.slice none 0 0) 1 24 Tryd.underlying52 hi1 hy0 hy1 hy2 rfl (by decide) (.slice aL i cL) VL.length VL rfl (World.ownsRow.alloc HGa.out.vl _) ⟨wr.heap.size, 0, none⟩ 1 1 [.slice a7 n7 c7] rfl rfl (one_new5 _ _ _) (by simp [Value.oneCell']) (by unfold maxLen; have := HVl.out; omega) (by have := HVl.out; omega) (by simp) ?_
                   intro v6 w6 hown6 hgrow6 hnil6 hat6; clear hnil6
                   have HG6 : Hid (wr.grownBy w6 (Value.slice aL i cL).ownBlock) := (World.grownBy_alloc wr _ _).trans hgrow6
                   have HO6 : Hid (w6.ownsRow 0 35 1 v6 (VL.length + 1) (VL ++ [.slice a7 n7 c7])) := hown6
                   have HA6 : Hid (v6.ownBlock = (Value.slice aL i cL).ownBlock ∨ ∃ g, v6.ownBlock = some g ∧ wr.heap.size ≤ g) := hat6.imp id (fun e => ⟨_, e, by simp⟩)
                   clear hown6 hgrow6 hat6)
                | go_in)
              have ho6 : ∀ g, g < wr.heap.size → (if g < wr.heap.size then own5 g else 5) = own5 g := fun g hg => if_pos hg
              have hpu := HGa.out.push HG6.out HO6.out HA6.out (by rw [HVl.out, HNi.out]; exact HS7.out) (by rw [HVl.out]; exact HT7.out)
              exact ⟨⟨i + 1, _, _, by simp, by omega, by rw [List.length_append, HVl.out]; rfl, HLo.out.keep HG6.out ho6 (fun g hg => HGa.out.tvl g hg) (fun q hq => by omega), hpu, HK.out.grown HG6.out (fun g hg hgl => by rw [← HO5.out g hgl, HGa.out.tvl g hg]; omega), fun g hg => (ho6 g (Nat.lt_of_lt_of_le hg HK.out.size)).trans (HO5.out g hg)⟩, by simp [intOf]; omega⟩
            · have hz4 : (k : Int) < 4 := by omega
              have hwk : IntKind.i64.wrap ((k : Int) + 1) = (k : Int) + 1 := by rw [IntKind.wrap_i64]; omega
              go_wp2_with (first
                | (at_builtin; refine wpList_append_own_at _ rfl _ _ 35 rfl 0 91 i0 (.agg #[.int .i64 0, .int .i64 0]) 2 16 Tryd.underlying35 hi0 hz0 hz1 hz2 rfl (by decide) (.slice a7 n7 c7) (List.replicate (ni + k) (mkS i)).length ((List.replicate (ni + k) (mkS i)).flatMap spc) rfl (World.ownsRow.alloc HS7.out _) ⟨wr.heap.size, 0, none⟩ 1 1 [.int .i64 (-1 - (i : Int)), .int .i64 (-1 - (i : Int))] rfl rfl (cell_two_new _ _ _ _) (by simp [Value.oneCell']) (by unfold maxLen; have := HN7.out; omega) (by have := HN7.out; omega) (by simp) ?_
                   intro v6 w6 hown6 hgrow6 hnil6 hat6; clear hnil6
                   have HG6 : Hid (wr.grownBy w6 (Value.slice a7 n7 c7).ownBlock) := (World.grownBy_alloc wr _ _).trans hgrow6
                   have HO6 : Hid (SOwn w6 0 v6 (List.replicate (ni + k) (mkS i) ++ [mkS i])) := SOwn.app3 (p := mkS i) hown6
                   have HA6 : Hid (v6.ownBlock = (Value.slice a7 n7 c7).ownBlock ∨ ∃ g, v6.ownBlock = some g ∧ wr.heap.size ≤ g) := hat6.imp id (fun e => ⟨_, e, by simp⟩)
                   clear hown6 hgrow6 hat6)
                | go_in)
              have ho6 : ∀ g, g < wr.heap.size → (if g < wr.heap.size then own5 g else 10 + i) = own5 g := fun g hg => if_pos hg
              refine ⟨⟨k + 1, fun g => if g < wr.heap.size then own5 g else 10 + i, by simp, by omega, HLo.out.keep HG6.out ho6 (fun g hg => HT7.out g hg) (fun q hq => by omega), HGa.out.keep HG6.out ho6 (fun g hg => HT7.out g hg) (by omega) (fun q hq => by have := HVl.out; omega), ?_, fun g hg => ?_, HK.out.grown HG6.out (fun g hg hgl => by rw [← HO5.out g hgl, HT7.out g hg]; omega), fun g hg => (ho6 g (Nat.lt_of_lt_of_le hg HK.out.size)).trans (HO5.out g hg)⟩, by simp [intOf]; omega⟩
              · have := HO6.out
                rw [← List.replicate_succ'] at this
                exact this
              · show (if g < wr.heap.size then own5 g else 10 + i) = 10 + i
                rcases HA6.out with q | ⟨g', q, q2⟩
                · rw [if_pos (HS7.out.lt g (q ▸ hg)).2]; exact HT7.out g (q ▸ hg)
                · have e2 : g' = g := Option.some.inj (q.symm.trans hg)
                  rw [if_neg (by omega)]
    · have hz : (j : Int) < (m : Int) := by omega
      have hwj : IntKind.i64.wrap ((j : Int) + 1) = (j : Int) + 1 := by rw [IntKind.wrap_i64]; omega
      obtain ⟨vj, hvj⟩ : ∃ v, os[j]? = some v := ⟨_, List.getElem?_eq_getElem (by rw [HM.out]; omega)⟩
      obtain ⟨aj, cj, rfl⟩ := (HLo.out.kr j vj (Nat.zero_le _) hvj).shape
      obtain ⟨nj, hnj⟩ : ∃ n, len j = n := ⟨_, rfl⟩
      have HNj : Hid (len j = nj) := hnj
      have hnb : nj ≤ 1048600 := by rw [← hnj]; exact HLb.out j
      rw [HCl.out j, hnj] at hvj
      have HVj : Hid (os[j]? = some (.slice aj nj cj)) := hvj
      clear hvj hnj
      go_wp2
      go_loopw [4] (fun v4 wr => ∃ (k : Nat) (Cs : Nat → List Sp), v4 = .int .i64 k ∧ k ≤ nj ∧ Lo own wr os Cs 0 ∧ (∀ q, (Cs q).length = len q) ∧ (∀ q, q < j → Cs q = List.replicate (len q) (mkS q)) ∧ (∀ q, q < k → (Cs j)[q]? = some (mkS j)) ∧ Kt own w wr) (fun v _ => nj - (intOf v).toNat)
      case atStart => exact ⟨0, Cs, rfl, by omega, HLo.out, HCl.out, HCm.out, fun q hq => by omega, HK.out⟩
      case round =>
        clear HLo HCl HCm HK
        obtain ⟨k, Cs2, rfl, hk, hLo, hCl, hCm, hCk, hK⟩ := hrel
        have HLo : Hid (Lo own wr os Cs2 0) := hLo
        have HCl : Hid (∀ q, (Cs2 q).length = len q) := hCl
        have HCm : Hid (∀ q, q < j → Cs2 q = List.replicate (len q) (mkS q)) := hCm
        have HCk : Hid (∀ q, q < k → (Cs2 j)[q]? = some (mkS j)) := hCk
        have HK : Hid (Kt own w wr) := hK
        obtain ⟨gl, off, rfl, e6⟩ := HNm.out.at hK HVj.out
        clear hLo hCl hCm hCk hK
        by_cases hkn : k = nj
        · subst hkn
          have hz2 : ¬ (k : Int) < (k : Int) := by omega
          go_wp2
          refine ⟨⟨j + 1, Cs2, by simp, by omega, HLo.out, HCl.out, fun q hq => ?_, HK.out⟩, by simp [intOf]; omega⟩
          by_cases e : q = j
          · subst e
            rw [HNj.out]
            exact all_marksS (by rw [HCl.out q, HNj.out]) HCk.out
          · exact HCm.out q (by omega)
        · have hz2' : (k : Int) < (nj : Int) := by omega
          have hwk : IntKind.i64.wrap ((k : Int) + 1) = (k : Int) + 1 := by rw [IntKind.wrap_i64]; omega
          have hwm : IntKind.i64.wrap (-1 - (j : Int)) = -1 - (j : Int) := by rw [IntKind.wrap_i64]; omega
          have hkr := HLo.out.kr j _ (Nat.zero_le _) HVj.out
          obtain ⟨gj, capj, ej⟩ := hkr.some2 (by rw [HCl.out j, HNj.out]; omega)
          obtain ⟨rfl, hmm, rfl⟩ : aj = some ⟨gj, 0, none⟩ ∧ nj = (Cs2 j).length ∧ cj = capj := by simpa using ej
          obtain ⟨⟨y1, y2⟩, hy⟩ : ∃ y, (Cs2 j)[k]? = some y := ⟨_, List.getElem?_eq_getElem (by omega)⟩
          obtain ⟨t0, t1, f0, f1⟩ := hkr.cells2 hy
          have HNew : Hid _ := HLo.out.store (k := k) HVj.out (-1 - (j : Int)) (-1 - (j : Int))
          have hgt : own gj = 10 + j := HLo.out.tk j _ gj (Nat.zero_le _) HVj.out rfl
          have HK2 : Hid (Kt own w ((wr.setCell ⟨gj, k * 2, none⟩ (.int .i64 (-1 - (j : Int)))).setCell ⟨gj, k * 2 + 1, none⟩ (.int .i64 (-1 - (j : Int))))) := HK.out.grown (row := some gj) (grown_trans (grown_set _ _ _ _) (grown_set _ _ _ _)) (fun g hg _ => by cases hg; rw [hgt]; omega)
          clear hkr ej hmm hy hgt
          go_wp2
          refine ⟨⟨k + 1, _, by simp, by omega, HNew.out, fun q => ?_, fun q hq => ?_, fun q hq => ?_, HK2.out⟩, by simp [intOf]; omega⟩
          · by_cases e : q = j
            · subst e; rw [if_pos rfl, List.length_set]; exact HCl.out q
            · rw [if_neg e]; exact HCl.out q
          · rw [if_neg (by omega)]; exact HCm.out q hq
          · rw [if_pos rfl, List.getElem?_set]
            by_cases e : k = q
            · rw [if_pos e, if_pos (by rw [HCl.out j, HNj.out]; omega)]; rfl
            · rw [if_neg e]; exact HCk.out q (by omega)

end Go.Proofs.YtdfdaambfihjaaaDoor.C

namespace Go.Proofs.YtdfdaambfihjaaaDoor.C
open Go.RowKit Go.Shelf
set_option linter.unusedVariables false

def mkL (l : List Sp) : List Sp := l ++ [(-7, -7), (-8, -8)]
theorem mkL_a (l : List Sp) : (l ++ (List.replicate (l.length + 2) ((0 : Int), (0 : Int))).drop l.length) = l ++ [(0, 0), (0, 0)] := by
  rw [List.drop_replicate, show l.length + 2 - l.length = 2 by omega]; rfl
theorem mkL_b (l : List Sp) : ((l ++ [((0 : Int), (0 : Int)), (0, 0)]).set l.length (-7, -7)).set (l.length + 1) (-8, -8) = mkL l := by
  rw [List.set_append_right _ _ (Nat.le_refl _), List.set_append_right _ _ (by omega)]
  simp [mkL]
theorem lent_made {w1 : World} {base g n : Nat} (h : w1.ownsRow base 91 2 (.slice (some ⟨g, 0, none⟩) n n) n (madeCells (Value.cells (.agg #[.int .i64 0, .int .i64 0])) (n * 2)).toList) : SOwn w1 base (.slice (some ⟨g, 0, none⟩) n n) (List.replicate n (0, 0)) := by
  rw [made_spans] at h
  unfold SOwn
  rw [List.length_replicate]
  exact h
theorem size_span5 : (Tryd.prog.info? 91).map (·.size) = some 2 := by kernel_rfl
set_option maxRecDepth 100000 in
set_option maxHeartbeats 4000000 in
theorem lentSpa_any {v : Value} {l : List Sp} {w : World} {a : Option Addr} {c : Nat} (hv : v = .slice a l.length c) (h : Spa w a l) (hm : l.length ≤ 1048576) : Calls Tryd.prog 37 #[v] w fun e w' => e = .returned (.slice (some ⟨w.heap.size, 0, none⟩) l.length (l.length + 2)) ∧ SOwn w' w.heap.size (.slice (some ⟨w.heap.size, 0, none⟩) (l.length + 2) (l.length + 2)) (mkL l) ∧ Below w.heap.size w w' := by
  obtain ⟨i0, hi, hz0, hz1, hz2⟩ := info_parts Tryd.info_span
  have HLs : Hid (Spa w a l) := h
  subst hv
  obtain ⟨n, hn⟩ : ∃ n, l.length = n := ⟨_, rfl⟩
  have HN : Hid (l.length = n) := hn
  rw [hn] at hm ⊢
  have hw1 : IntKind.i64.wrap ((n : Int) + 2) = (n : Int) + 2 := by rw [IntKind.wrap_i64]; omega
  have hw2 : IntKind.i64.wrap ((n : Int) + 1) = (n : Int) + 1 := by rw [IntKind.wrap_i64]; omega
  have HLb : Hid (∀ X, Below w.heap.size w X → Spa X a l) := fun X hX => HLs.out.below hX
  clear h hn
  go_enter Tryd.func37, Tryd.ntmps37
  go_upto_region 3 with (first
    | (at_make; refine wpList_make_full _ rfl _ _ 35 rfl w.heap.size 91 i0 (.agg #[.int .i64 0, .int .i64 0]) 2 Tryd.underlying35 hi hz0 hz1 .i64 .i64 _ _ (n + 2) rfl rfl (by simp) (by simp) (by rw [hz2]; omega) (by unfold maxLen; omega) (Nat.le_refl _) ?_
       intro w1 hown1 hgrow1
       have HB1 : Hid (Below w.heap.size w w1) := (Below.refl _ _).grown hgrow1 (Nat.le_refl _) (by intro j hj; cases hj)
       have HO1 : Hid (SOwn w1 w.heap.size (.slice (some ⟨w.heap.size, 0, none⟩) (n + 2) (n + 2)) (List.replicate (n + 2) (0, 0))) := lent_made hown1
       clear hown1 hgrow1)
    | (refine wpList_copy_spa rfl (.tmp 8) (.tmp 9) 35 35 rfl Tryd.underlying35 size_span5 w.heap.size (n + 2) (n + 2) w.heap.size _ l a c rfl (by rw [HN.out]; rfl) HO1.out (HLb.out _ HB1.out) (by have := HN.out; omega) ?_
       intro w2 hown2 hgrow2
       have HB2 : Hid (Below w.heap.size w w2) := HB1.out.trans ((Below.refl _ _).grown hgrow2 HB1.out.size (by intro j hj; cases hj; exact Nat.le_refl _))
       have HO2 : Hid (SOwn w2 w.heap.size (.slice (some ⟨w.heap.size, 0, none⟩) (n + 2) (n + 2)) (l ++ (List.replicate (n + 2) ((0 : Int), (0 : Int))).drop l.length)) := hown2
       clear hown2 hgrow2)
    | go_in)
  have HO3 : Hid (SOwn w2 w.heap.size (.slice (some ⟨w.heap.size, 0, none⟩) (n + 2) (n + 2)) (l ++ [(0, 0), (0, 0)])) := by
    have h8 := HO2.out
    rw [← HN.out, mkL_a, HN.out] at h8
    exact h8
  have g0 : (l ++ [((0 : Int), (0 : Int)), (0, 0)])[n]? = some (0, 0) := by rw [← HN.out, List.getElem?_append_right (Nat.le_refl _)]; simp
  obtain ⟨q1, q2, q3, q4⟩ := HO3.out.cells g0
  have s7 := HO3.out.put (k := n) (-7) (-7)
  have g1 : ((l ++ [((0 : Int), (0 : Int)), (0, 0)]).set n (-7, -7))[n + 1]? = some (0, 0) := by
    rw [List.getElem?_set_ne (by omega), ← HN.out, List.getElem?_append_right (by omega)]
    simp
  obtain ⟨q5, q6, q7, q8⟩ := s7.cells g1
  have s8 := s7.put (k := n + 1) (-8) (-8)
  have HS8 : Hid (SOwn ((((w2.setCell ⟨w.heap.size, n * 2, none⟩ (.int .i64 (-7))).setCell ⟨w.heap.size, n * 2 + 1, none⟩ (.int .i64 (-7))).setCell ⟨w.heap.size, (n + 1) * 2, none⟩ (.int .i64 (-8))).setCell ⟨w.heap.size, (n + 1) * 2 + 1, none⟩ (.int .i64 (-8))) w.heap.size (.slice (some ⟨w.heap.size, 0, none⟩) (n + 2) (n + 2)) (mkL l)) := by
    have h8 := s8
    rw [← HN.out, mkL_b] at h8
    rw [← HN.out]
    exact h8
  have HB8 : Hid (Below w.heap.size w ((((w2.setCell ⟨w.heap.size, n * 2, none⟩ (.int .i64 (-7))).setCell ⟨w.heap.size, n * 2 + 1, none⟩ (.int .i64 (-7))).setCell ⟨w.heap.size, (n + 1) * 2, none⟩ (.int .i64 (-8))).setCell ⟨w.heap.size, (n + 1) * 2 + 1, none⟩ (.int .i64 (-8)))) := (((HB2.out.setCell (p := ⟨w.heap.size, n * 2, none⟩) (Nat.le_refl _) _).setCell (p := ⟨w.heap.size, n * 2 + 1, none⟩) (Nat.le_refl _) _).setCell (p := ⟨w.heap.size, (n + 1) * 2, none⟩) (Nat.le_refl _) _).setCell (p := ⟨w.heap.size, (n + 1) * 2 + 1, none⟩) (Nat.le_refl _) _
  simp only at q1 q2 q5 q6
  have hl1 : (n : Int) < (n : Int) + 2 := by omega
  have hl2 : (n : Int) + 1 < (n : Int) + 2 := by omega
  clear s7 s8 g0 g1 HO1 HO2 HO3 HB1 HB2
  go_wp2
  go_ret
  exact ⟨rfl, HS8.out, HB8.out⟩
end Go.Proofs.YtdfdaambfihjaaaDoor.C

namespace Go.Proofs.YtdfdaambfihjaaaDoor.C
open Go.RowKit Go.Shelf
set_option linter.unusedVariables false

theorem below_dN {B : Nat} {w wr : World} (h : Below B w wr) (n : Nat) : Below B w (wr.drewN n) := ⟨h.os, h.tape, h.output, h.size, h.block⟩
theorem mkL_at {l : List Sp} {k : Nat} {p : Sp} (h : l[k]? = some p) : (mkL l)[k]? = some p := by unfold mkL; rw [List.getElem?_append_left (List.getElem?_eq_some_iff.mp h).1]; exact h
theorem mkL_7 (l : List Sp) : (mkL l)[l.length]? = some (-7, -7) := by unfold mkL; rw [List.getElem?_append_right (Nat.le_refl _)]; simp
theorem mkL_8 (l : List Sp) : (mkL l)[l.length + 1]? = some (-8, -8) := by unfold mkL; rw [List.getElem?_append_right (by omega)]; simp

set_option maxRecDepth 100000 in
set_option maxHeartbeats 4000000 in
theorem keptSpa_any {v : Value} {l : List Sp} {w : World} {base g c : Nat} {a : Option Addr} (hv : v = .slice a l.length c) (hs : Spa w a l) (hm : l.length ≤ 1048576) (ho : SOwn w base (.slice (some ⟨g, 0, none⟩) (l.length + 2) (l.length + 2)) (mkL l)) :
    Calls Tryd.prog 48 #[.slice (some ⟨g, 0, none⟩) l.length (l.length + 2), v] w fun e w' => e = .returned (.bool true) ∧ Below w.heap.size w w' := by
  subst hv
  have HS : Hid (Spa w a l) := hs
  obtain ⟨n, hn⟩ : ∃ n, l.length = n := ⟨_, rfl⟩
  have HN : Hid (l.length = n) := hn
  have h7 := mkL_7 l
  have h8 := mkL_8 l
  rw [hn] at hm ho h7 h8 ⊢
  have HO : Hid (SOwn w base (.slice (some ⟨g, 0, none⟩) (n + 2) (n + 2)) (mkL l)) := ho
  have H78 : Hid ((mkL l)[n]? = some (-7, -7) ∧ (mkL l)[n + 1]? = some (-8, -8)) := ⟨h7, h8⟩
  have hw1 : IntKind.i64.wrap ((n : Int) + 2) = (n : Int) + 2 := by rw [IntKind.wrap_i64]; omega
  have hw2 : IntKind.i64.wrap ((n : Int) + 1) = (n : Int) + 1 := by rw [IntKind.wrap_i64]; omega
  clear hs hn ho h7 h8
  go_enter Tryd.func48, Tryd.ntmps48
  go_wp2
  go_loopw [6] (fun i wr => ∃ (k : Nat), k ≤ n ∧ i = .int .i64 k ∧ Below w.heap.size w wr) (fun i _ => n - (intOf i).toNat)
  case atStart => exact ⟨0, by omega, rfl, Below.refl _ _⟩
  case round =>
    obtain ⟨k, hk, rfl, hbe⟩ := hrel
    have HBe : Hid (Below w.heap.size w wr) := hbe
    have HOr : Hid (SOwn wr base (.slice (some ⟨g, 0, none⟩) (n + 2) (n + 2)) (mkL l)) := HO.out.below hbe
    clear hbe
    by_cases hlt : k < n
    · have hlt' : (k : Int) < (n : Int) := by omega
      have hlt2 : (k : Int) < (n : Int) + 2 := by omega
      have hwk : IntKind.i64.wrap ((k : Int) + 1) = (k : Int) + 1 := by rw [IntKind.wrap_i64]; omega
      obtain ⟨⟨p1, p2⟩, hp⟩ : ∃ p, l[k]? = some p := ⟨_, List.getElem?_eq_getElem (by rw [HN.out]; omega)⟩
      obtain ⟨q1, q2, _, _⟩ := HOr.out.cells2 (mkL_at hp)
      obtain ⟨g', off', rfl, r1, r2⟩ := (HS.out.below HBe.out).at hp
      simp only at q1 q2 r1 r2
      clear hp
      go_wp2_with fail
      go_quiet (fail)
      go_wp2
      exact ⟨⟨k + 1, by omega, by simp, below_dN HBe.out _⟩, by simp [intOf]; omega⟩
    · have hkn : k = n := by omega
      subst hkn
      have hz : ¬ (k : Int) < (k : Int) := by omega
      have hl1 : (k : Int) < (k : Int) + 2 := by omega
      have hl2 : (k : Int) + 1 < (k : Int) + 2 := by omega
      obtain ⟨q1, q2, _, _⟩ := HOr.out.cells2 H78.out.1
      obtain ⟨q3, q4, _, _⟩ := HOr.out.cells2 H78.out.2
      simp only at q1 q2 q3 q4
      go_wp2
      go_ret
      exact ⟨rfl, HBe.out⟩
end Go.Proofs.YtdfdaambfihjaaaDoor.C

namespace Go.Proofs.YtdfdaambfihjaaaDoor.C
open Go.RowKit Go.Shelf
set_option linter.unusedVariables false

end Go.Proofs.YtdfdaambfihjaaaDoor.C
