import Derived.Test.YthkphihgdklbbaaDoorBrSt1
import Derived.Deep.RegionHeld3
import Derived.BigQuiet
namespace Go.Proofs.YthkphihgdklbbaaDoor.C
open Go.RowKit Go.Shelf
set_option linter.unusedVariables false
set_option linter.unusedSimpArgs false

/-- AN APPEND OF ONE: in place, or in a new block; whatever begins as the row does keeps what it has. -/
theorem append_s4 {P : Program} (w : World) {ops : Array Oper} {rest : List Oper} {o : Oper} {a : Act} {Q : Exit → Act → World → Prop} (hgd : o.guard = none) (s x : Operand) (ts : TypeId)
    (ho : o.op = .call { callee := .builtin .append, args := #[s, x], argTypes := #[ts, ts] })
    (t : TypeId) (i : TypeInfo) (z : Value) (sz bytes : Nat) (ht : P.underlying ts = some (.slice t)) (hi : P.info? t = some i) (hz : i.zero = some z)
    (hsize : i.size = sz) (hby : i.bytes = bytes) (hzs : z.cells.size = sz) (hsz : 0 < sz)
    (v : Value) (n : Nat) (xs : List Value) (hs : a.eval s = v) (hown : w.ownsRow 0 t sz v n xs)
    (ad : Addr) (cc : Nat) (news : List Value) (hx : a.eval x = .slice (some ad) 1 cc) (hnl : news.length = 1 * sz) (hnews : ∀ j u, news[j]? = some u → w.cell? (ad.add j) = some u) (h1c : ∀ u ∈ news, u.oneCell' = true)
    (hbytes : (n + 1) * bytes ≤ 140737488355328) (h63 : n + 1 ≤ maxLen)
    (h : ∀ v' w', w'.ownsRow 0 t sz v' (n + 1) (xs ++ news) → w.grownBy w' v.ownBlock → (v'.ownBlock = v.ownBlock ∨ ∃ g, v'.ownBlock = some g ∧ w.heap.size ≤ g) →
      (∀ u m ys, w.ownsRow 0 t sz u m ys → (∀ g, u.ownBlock = some g → v.ownBlock = some g → ys = xs.take (m * sz) ∧ m ≤ n) → w'.ownsRow 0 t sz u m ys) → wpList P ops Q rest (a.put o.dst v') w') : wpList P ops Q (o :: rest) a w := by
  have hgrows : ∀ (ao : Option Addr) (cap : Nat), v = .slice ao n cap → (ao = none → n = 0 ∧ cap = 0) → (∀ b, ao = some b → ∀ j u, xs[j]? = some u → w.cell? (b.add j) = some u) → cap < n + 1 → wpList P ops Q (o :: rest) a w := fun ao cap hv hnone holds hfull => by
    refine wpList_append_grows w hgd s x ts ho t i z sz bytes ht hi hz hsize hby hzs hsz ao n cap xs (by rw [hs, hv]) hnone hown.1 holds ad 1 cc news hx hnl hnews h1c hfull h63 hbytes ?_
    intro v' w' ho' hg'
    refine h v' w' ?_ ⟨hg'.os, hg'.tape, hg'.output, hg'.size, fun j hj _ => hg'.block j hj (by simp)⟩ (.inr ?_) (fun u m ys hu _ => ?_)
    · obtain ⟨k1, ⟨e, e0⟩ | ⟨g, cap', cur, e, q⟩⟩ := ho'
      · exact ⟨k1, .inl ⟨e, e0⟩⟩
      · exact ⟨k1, .inr ⟨g, cap', cur, e, Nat.zero_le _, q.2⟩⟩
    · obtain ⟨k1, ⟨e, e0⟩ | ⟨g, cap', cur, rfl, q, _⟩⟩ := ho'
      · omega
      · exact ⟨g, rfl, q⟩
    · obtain ⟨k1, ⟨e, e0⟩ | ⟨g, cap', cur, e, q1, q2, q3⟩⟩ := hu
      · exact ⟨k1, .inl ⟨e, e0⟩⟩
      · exact ⟨k1, .inr ⟨g, cap', cur, e, q1, (hg'.block g (Array.getElem?_eq_some_iff.mp q2).1 (by simp)).trans q2, q3⟩⟩
  obtain ⟨hxl, ⟨rfl, h0⟩ | ⟨g, cap, cur, rfl, hb, hg, e1, e2, e3, e4⟩⟩ := id hown
  · exact hgrows none 0 (by rw [h0]) (fun _ => ⟨h0, rfl⟩) (fun b hb => by cases hb) (by omega)
  · by_cases hfit : n + 1 ≤ cap
    · refine wpList_append_fits w hgd s x ts ho 0 t i sz ht hi hsize g n cap xs hs hown ad 1 cc news hx hnl hnews h1c hfit ?_
      intro w' ho' hg'
      refine h _ w' ho' hg' (.inl rfl) (fun u m ys hu hp => ?_)
      obtain ⟨k1, ⟨e, f0⟩ | ⟨g2, cap2, cur2, rfl, f1, f2, f3, f4, f5, f6⟩⟩ := hu
      · exact ⟨k1, .inl ⟨e, f0⟩⟩
      · by_cases hgg : g2 = g
        · subst hgg
          obtain ⟨p1, p2⟩ := hp g2 rfl rfl
          rw [hg] at f2
          simp only [Option.some.injEq, Obj.cells.injEq] at f2
          obtain ⟨f2, _⟩ := f2
          subst f2
          obtain ⟨_, ⟨x0, _⟩ | ⟨g3, cap3, cur3, x0, x1, x2, x3, x4, x5, x6⟩⟩ := ho'
          · cases x0
          · simp only [Value.slice.injEq, Option.some.injEq, Addr.mk.injEq, and_true, true_and] at x0
            obtain ⟨rfl, rfl⟩ := x0
            refine ⟨k1, .inr ⟨g2, cap2, cur3, rfl, Nat.zero_le _, x2, f3, f4, by omega, ?_⟩⟩
            have hm1 : m * sz ≤ (n + 1) * sz := Nat.mul_le_mul_right _ (by omega)
            have hm2 : m * sz ≤ n * sz := Nat.mul_le_mul_right _ p2
            have e7 : cur3.toList.take (m * sz) = (cur3.toList.take ((n + 1) * sz)).take (m * sz) := by rw [List.take_take, Nat.min_eq_left hm1]
            rw [e7, x6, List.take_append_of_le_length (by omega), p1]
        · exact ⟨k1, .inr ⟨g2, cap2, cur2, rfl, f1, (hg'.block g2 (Array.getElem?_eq_some_iff.mp f2).1 (fun e => hgg (Option.some.inj e))).trans f2, f3, f4, f5, f6⟩⟩
    · refine hgrows (some ⟨g, 0, none⟩) cap rfl (fun e => by cases e) (fun b hb j u hj => ?_) (by omega)
      cases hb
      exact World.ownsRow.cells (g := g) hown rfl j u hj

theorem spc_putE : ∀ (L : List Sp) (k : Nat) (a b : Int), ((L.flatMap spc).set (k * 2) (.int .i64 a)).set (k * 2 + 1) (.int .i64 b) = (L.set k (a, b)).flatMap spc
  | [], k, a, b => by simp
  | s :: r, 0, a, b => by simp [spc]
  | s :: r, k + 1, a, b => by
    have := spc_putE r k a b
    rw [List.flatMap_cons, List.set_cons_succ, List.flatMap_cons, ← this]
    rw [List.set_append_right _ _ (by simp [spc]; omega), List.set_append_right _ _ (by simp [spc]; omega)]
    congr 1
    simp only [spc, List.length_cons, List.length_nil]
    rw [show (k + 1) * 2 - (0 + 1 + 1) = k * 2 from by omega, show (k + 1) * 2 + 1 - (0 + 1 + 1) = k * 2 + 1 from by omega]

theorem SOwn.lenE {W : World} {base n cap : Nat} {a : Option Addr} {L : List Sp} (h : SOwn W base (.slice a n cap) L) : L.length = n := by
  obtain ⟨a', c', hv⟩ := h.shape
  simp only [Value.slice.injEq] at hv; exact hv.2.1.symm
theorem SOwn.putE {W : World} {base g cap n k : Nat} {L : List Sp} (h : SOwn W base (.slice (some ⟨g, 0, none⟩) n cap) L) (a b : Int) : SOwn ((W.setCell ⟨g, k * 2, none⟩ (.int .i64 a)).setCell ⟨g, k * 2 + 1, none⟩ (.int .i64 b)) base (.slice (some ⟨g, 0, none⟩) n cap) (L.set k (a, b)) := by
  have hn := h.lenE
  subst hn
  have h1 := (World.ownsRow.stored h (k * 2) (.int .i64 a)).1
  have h2 := (World.ownsRow.stored h1 (k * 2 + 1) (.int .i64 b)).1
  rw [spc_putE] at h2
  unfold SOwn
  rw [List.length_set]
  exact h2
theorem SOwn.cellsE {W : World} {base g cap n k : Nat} {L : List Sp} {p : Sp} (h : SOwn W base (.slice (some ⟨g, 0, none⟩) n cap) L) (hk : L[k]? = some p) : W.cell? ⟨g, k * 2, none⟩ = some (.int .i64 p.1) ∧ W.cell? ⟨g, k * 2 + 1, none⟩ = some (.int .i64 p.2) ∧ W.frozen? ⟨g, k * 2, none⟩ = false ∧ W.frozen? ⟨g, k * 2 + 1, none⟩ = false := by
  have hn := h.lenE
  subst hn
  have hkl : k < L.length := (List.getElem?_eq_some_iff.mp hk).1
  obtain ⟨q1, q2⟩ := spc_get L k p hk
  exact ⟨(World.ownsRow.cellAt h _ (by omega)).trans q1, (World.ownsRow.cellAt h _ (by omega)).trans q2, World.ownsRow.frozenAt h _, World.ownsRow.frozenAt h _⟩
theorem SOwn.someE {w : World} {base : Nat} {v : Value} {l : List Sp} (h : SOwn w base v l) (hn : 0 < l.length) : ∃ g cap, v = .slice (some ⟨g, 0, none⟩) l.length cap := own_some h hn
theorem SOwn.blkE {w w' : World} {base : Nat} {v : Value} {l : List Sp} (h : SOwn w base v l) (hb : ∀ g, v.ownBlock = some g → w'.heap[g]? = w.heap[g]?) : SOwn w' base v l := by
  obtain ⟨h1, h2⟩ := h
  refine ⟨h1, ?_⟩
  rcases h2 with h2 | ⟨g, cap, cur, rfl, hg, hh, r⟩
  · exact .inl h2
  · exact .inr ⟨g, cap, cur, rfl, hg, (hb g rfl).trans hh, r⟩

/-- The mark of set i. -/
def sE (i : Nat) : Sp := (-1 - (i : Int), 0)
def mkE (i n : Nat) : List Sp := List.replicate n (sE i)
theorem mkE_len (i n : Nat) : (mkE i n).length = n := by simp [mkE]
theorem mkE_at {i n k : Nat} (h : k < n) : (mkE i n)[k]? = some (sE i) := by simp [mkE, h]
theorem mkE_succ (i n : Nat) : mkE i (n + 1) = mkE i n ++ [sE i] := by simp [mkE, List.replicate_succ']
theorem mkE_take (i n k : Nat) : (mkE i (n + k)).take n = mkE i n := by simp [mkE, List.take_replicate]
theorem mkE_flat (i : Nat) : ∀ n k, ((mkE i (n + k)).flatMap spc).take (n * 2) = (mkE i n).flatMap spc
  | 0, k => by simp [mkE]
  | n + 1, k => by
    have h := mkE_flat i n k
    rw [show n + 1 + k = (n + k) + 1 from by omega]
    simp only [mkE, List.replicate_succ, List.flatMap_cons] at h ⊢
    rw [show (n + 1) * 2 = n * 2 + 1 + 1 from by omega]
    simp only [spc, List.cons_append, List.nil_append, List.take_succ_cons]
    rw [← h]
theorem all_mkE {i n : Nat} {l : List Sp} (hl : l.length = n) (h : ∀ q : Nat, q < n → l[q]? = some (sE i)) : l = mkE i n := by
  apply List.ext_getElem?
  intro q
  by_cases e : q < n
  · rw [h q e, mkE_at e]
  · rw [List.getElem?_eq_none (by omega), List.getElem?_eq_none (by rw [mkE_len]; omega)]
theorem SOwn.appE {w : World} {base : Nat} {v : Value} {l : List Sp} {p : Sp} (h : w.ownsRow base 38 2 v (l.length + 1) (l.flatMap spc ++ [.int .i64 p.1, .int .i64 p.2])) : SOwn w base v (l ++ [p]) := by
  unfold SOwn
  rw [List.length_append, List.flatMap_append]
  exact h
/-- Rows of spans: their values, what they hold, whose their blocks are. -/
structure Ls4 (T own : Nat → Nat) (w : World) (os : List Value) (Cs : Nat → List Sp) (c : Nat) : Prop where
  kr : ∀ (j : Nat) v, c ≤ j → os[j]? = some v → SOwn w 0 v (Cs j)
  tk : ∀ (j : Nat) v g, c ≤ j → os[j]? = some v → v.ownBlock = some g → own g = T j
section
variable {T own own' : Nat → Nat} {w w' : World} {os : List Value} {Cs : Nat → List Sp} {c : Nat}
theorem Ls4.keep {row : Option Nat} {t : Nat} (h : Ls4 T own w os Cs c) (hg : w.grownBy w' row) (ho : ∀ g, g < w.heap.size → own' g = own g) (hr : ∀ g, row = some g → own g = t) (hc : ∀ j, c ≤ j → t ≠ T j) : Ls4 T own' w' os Cs c :=
  ⟨fun j v hj hv => (h.kr j v hj hv).blkE (fun g hgb => hg.block g ((h.kr j v hj hv).lt g hgb).2 (fun e => hc j hj ((hr g e.symm).symm.trans (h.tk j v g hj hv hgb)))), fun j v g hj hv hgb => (ho g ((h.kr j v hj hv).lt g hgb).2).trans (h.tk j v g hj hv hgb)⟩
theorem Ls4.store (hT : Tg T) (h : Ls4 T own w os Cs 0) {j k g n cap : Nat} (hj : os[j]? = some (.slice (some ⟨g, 0, none⟩) n cap)) (a b : Int) :
    Ls4 T own ((w.setCell ⟨g, k * 2, none⟩ (.int .i64 a)).setCell ⟨g, k * 2 + 1, none⟩ (.int .i64 b)) os (fun q => if q = j then (Cs j).set k (a, b) else Cs q) 0 := by
  refine ⟨fun q v hq hv => ?_, h.tk⟩
  by_cases e : q = j
  · subst e
    rw [hj] at hv
    cases hv
    show SOwn _ _ _ (if q = q then _ else _)
    rw [if_pos rfl]
    exact (h.kr q _ hq hj).putE a b
  · show SOwn _ _ _ (if q = j then _ else _)
    rw [if_neg e]
    have hne : ∀ g', v.ownBlock = some g' → g' ≠ g := fun g' hg' e2 => by
      have h1 := h.tk q v g' hq hv hg'
      have h2 := h.tk j _ g (Nat.zero_le _) hj rfl
      rw [e2] at h1
      exact e (hT.inj _ _ (h1.symm.trans h2))
    exact (h.kr q v hq hv).blkE (fun g' hg' => (heap_setCell_other _ _ _ _ (hne g' hg')).trans (heap_setCell_other _ _ _ _ (hne g' hg')))
theorem Ls4.next (h : Ls4 T own w os Cs c) : Ls4 T own w os Cs (c + 1) := ⟨fun j v hj => h.kr j v (by omega), fun j v g hj => h.tk j v g (by omega)⟩
end
/-- The row of what has grown, two entries each. -/
structure Gs4 (T own : Nat → Nat) (w : World) (vL : Value) (VL : List Value) (len : Nat → Nat) : Prop where
  vl : w.ownsRow 0 59 1 vL VL.length VL
  tvl : ∀ g, vL.ownBlock = some g → own g = 5
  kr : ∀ (j : Nat) v, VL[j]? = some v → SOwn w 0 v (mkE (j / 2) (len (j / 2) + 40 * (1 - j % 2)))
  tk : ∀ (j : Nat) v g, VL[j]? = some v → v.ownBlock = some g → own g = T (j / 2)
section
variable {T own own' : Nat → Nat} {w w' : World} {vL : Value} {VL : List Value} {len : Nat → Nat}
theorem Gs4.keep {row : Option Nat} {t : Nat} (h : Gs4 T own w vL VL len) (hg : w.grownBy w' row) (ho : ∀ g, g < w.heap.size → own' g = own g) (hr : ∀ g, row = some g → own g = t) (h5 : t ≠ 5) (hc : ∀ j, j < VL.length → t ≠ T (j / 2)) : Gs4 T own' w' vL VL len :=
  ⟨own_blk4 h.vl (fun g hgb => hg.block g (World.ownsRow.lt h.vl g hgb).2 (fun e => h5 ((hr g e.symm).symm.trans (h.tvl g hgb)))), fun g hgb => (ho g (World.ownsRow.lt h.vl g hgb).2).trans (h.tvl g hgb),
    fun j v hv => (h.kr j v hv).blkE (fun g hgb => hg.block g ((h.kr j v hv).lt g hgb).2 (fun e => hc j (List.getElem?_eq_some_iff.mp hv).1 ((hr g e.symm).symm.trans (h.tk j v g hv hgb)))), fun j v g hv hgb => (ho g ((h.kr j v hv).lt g hgb).2).trans (h.tk j v g hv hgb)⟩
theorem Gs4.push (hT : Tg T) {w6 : World} {v6 u0 u : Value} {i : Nat} (h : Gs4 T own w vL VL len) (hi : VL.length = 2 * i) (hg : w.grownBy w6 vL.ownBlock) (hv6 : w6.ownsRow 0 59 1 v6 (VL.length + 2) (VL ++ [u, u0])) (hl6 : v6.ownBlock = vL.ownBlock ∨ ∃ g, v6.ownBlock = some g ∧ w.heap.size ≤ g)
    (hu0 : SOwn w 0 u0 (mkE i (len i))) (ht0 : ∀ g, u0.ownBlock = some g → own g = T i) (hu : SOwn w 0 u (mkE i (len i + 40))) (ht : ∀ g, u.ownBlock = some g → own g = T i) : Gs4 T (fun g => if g < w.heap.size then own g else 5) w6 v6 (VL ++ [u, u0]) len := by
  have ho : ∀ g, g < w.heap.size → (if g < w.heap.size then own g else 5) = own g := fun g hg => if_pos hg
  have key : ∀ (j : Nat) v, (VL ++ [u, u0])[j]? = some v → SOwn w 0 v (mkE (j / 2) (len (j / 2) + 40 * (1 - j % 2))) ∧ ∀ g, v.ownBlock = some g → own g = T (j / 2) := fun j v hv => by
    rcases Nat.lt_or_ge j VL.length with q | q
    · rw [List.getElem?_append_left q] at hv
      exact ⟨h.kr j v hv, fun g => h.tk j v g hv⟩
    · rw [List.getElem?_append_right q] at hv
      have hlt := (List.getElem?_eq_some_iff.mp hv).1
      simp at hlt
      rcases (by omega : j - VL.length = 0 ∨ j - VL.length = 1) with e | e
      · rw [e] at hv
        simp at hv
        subst hv
        rw [show j / 2 = i by omega, show j % 2 = 0 by omega]
        exact ⟨by simpa using hu, ht⟩
      · rw [e] at hv
        simp at hv
        subst hv
        rw [show j / 2 = i by omega, show j % 2 = 1 by omega]
        exact ⟨by simpa using hu0, ht0⟩
  refine ⟨by rw [List.length_append]; exact hv6, fun g hgb => ?_, fun j v hv => ?_, fun j v g hv hgb => ?_⟩
  · show (if g < w.heap.size then own g else 5) = 5
    rcases hl6 with q | ⟨g', q, q2⟩
    · rw [ho g (World.ownsRow.lt h.vl g (q ▸ hgb)).2]; exact h.tvl g (q ▸ hgb)
    · have e2 : g' = g := Option.some.inj (q.symm.trans hgb)
      rw [if_neg (by omega)]
  · obtain ⟨k1, k2⟩ := key j v hv
    exact k1.blkE (fun g hgb => hg.block g (k1.lt g hgb).2 (fun e => by have h1 := h.tvl g e.symm; have h2 := k2 g hgb; have h3 := hT.big (j / 2); omega))
  · obtain ⟨k1, k2⟩ := key j v hv
    exact (ho g (k1.lt g hgb).2).trans (k2 g hgb)
end

end Go.Proofs.YthkphihgdklbbaaDoor.C

namespace Go.Proofs.YthkphihgdklbbaaDoor.C
open Go.RowKit Go.Shelf
set_option linter.unusedVariables false
set_option linter.unusedSimpArgs false

theorem br_spansE : (Tryd.prog.info? 59).map (fun i => (i.zero, i.size, i.bytes)) = some (some (.slice none 0 0), 1, 24) := by kernel_rfl
def Dw (Z V : World) : Prop := ∃ nd, V = Z.drewN nd
theorem Dw.cell {Z V : World} (h : Dw Z V) {a : Addr} {x : Option Value} (hc : Z.cell? a = x) : V.cell? a = x := by
  obtain ⟨nd, rfl⟩ := h; exact hc
theorem Dw.drew {Z V : World} (h : Dw Z V) : Dw Z V.drew := by obtain ⟨nd, rfl⟩ := h; exact ⟨nd + 1, rfl⟩
theorem Dw.drewN {Z V : World} (h : Dw Z V) (n : Nat) : Dw Z (V.drewN n) := by obtain ⟨nd, rfl⟩ := h; exact ⟨nd + n, by simp [World.drewN, Nat.add_assoc]⟩
theorem Dw.refl (Z : World) : Dw Z Z := ⟨0, rfl⟩
theorem box_at {T own : Nat → Nat} {W wr : World} {q : Nat} {bx : Array Value} {t : TypeId} (hK : Kt4 T own W wr) (hq : W.heap[q]? = some (.cells bx t (0, 0))) (ht : (∀ j, own q ≠ T j) ∧ own q ≠ 5) (j : Nat) : wr.cell? ⟨q, j, none⟩ = bx[j]? :=
  cell_of_row _ _ j _ _ _ ((hK.block q (Array.getElem?_eq_some_iff.1 hq).1 ht.1 ht.2).trans hq)
def tR (j : Nat) : Nat := 20 + 2 * j
def tS (j : Nat) : Nat := 21 + 2 * j
theorem tR_tg : Tg tR := ⟨fun i j h => by unfold tR at h; omega, fun i => by unfold tR; omega⟩
theorem tS_tg : Tg tS := ⟨fun i j h => by unfold tS at h; omega, fun i => by unfold tS; omega⟩
/-- A row's values lie there. -/
theorem row_nam {T own : Nat → Nat} {w : World} {e : TypeId} {a : Option Addr} {n c t : Nat} {os : List Value} (h : w.ownsRow 0 e 1 (.slice a n c) os.length os) (ht : ∀ g, (Value.slice a n c).ownBlock = some g → own g = t) (hT : (∀ j, t ≠ T j) ∧ t ≠ 5) : Nam4 T own w a os := by
  by_cases h0 : os = []
  · exact .inl h0
  · obtain ⟨g, cap, e1⟩ := own_some h (List.length_pos_iff.mpr h0)
    obtain ⟨rfl, hn, rfl⟩ : a = some ⟨g, 0, none⟩ ∧ n = os.length ∧ c = cap := by simpa using e1
    have hg := ht g rfl
    refine .inr ⟨g, 0, rfl, by rw [hg]; exact hT, fun i v hv => ?_⟩
    subst hn
    rw [Nat.zero_add]
    exact (World.ownsRow.cellAt h i (by have := (List.getElem?_eq_some_iff.mp hv).1; omega)).trans hv
theorem row_at {w : World} {e : TypeId} {a : Option Addr} {n c : Nat} {os : List Value} {i : Nat} {v : Value} (h : w.ownsRow 0 e 1 (.slice a n c) os.length os) (hv : os[i]? = some v) : ∃ g, a = some ⟨g, 0, none⟩ ∧ w.cell? ⟨g, i, none⟩ = some v := by
  have hl := (List.getElem?_eq_some_iff.mp hv).1
  obtain ⟨g, cap, e1⟩ := own_some h (by omega)
  obtain ⟨rfl, hn, rfl⟩ : a = some ⟨g, 0, none⟩ ∧ n = os.length ∧ c = cap := by simpa using e1
  subst hn
  exact ⟨g, rfl, (World.ownsRow.cellAt h i (by omega)).trans hv⟩

/-! ## What came out, held against what was told -/
/-- All that the first loops read. -/
structure En (w : World) (q : Nat) (aR aW aS aX : Option Addr) (nR nS cR cW cS cX : Nat) (rs ws ss xs : List Value) (C : Nat → List Int) (S : Nat → List Sp) : Prop where
  c4 : w.cell? ⟨q, 4, none⟩ = some (.slice aR nR cR)
  c5 : w.cell? ⟨q, 5, none⟩ = some (.slice aW nR cW)
  c6 : w.cell? ⟨q, 6, none⟩ = some (.slice aS nS cS)
  c7 : w.cell? ⟨q, 7, none⟩ = some (.slice aX nS cX)
  row : ∀ i, i < nR → ∃ gR gW ai ci, aR = some ⟨gR, 0, none⟩ ∧ aW = some ⟨gW, 0, none⟩ ∧ w.cell? ⟨gR, i, none⟩ = some (.slice ai (C i).length ci) ∧ w.cell? ⟨gW, i, none⟩ = some (.string (strOfNums (C i))) ∧ ∀ nd, (convert 36 9 (.slice ai (C i).length ci)).run Tryd.prog (w.drewN nd) = .ok (.string (strOfNums (C i))) (w.drewN nd)
  set : ∀ i, i < nS → ∃ gS gX ai ci bi di, aS = some ⟨gS, 0, none⟩ ∧ aX = some ⟨gX, 0, none⟩ ∧ w.cell? ⟨gS, i, none⟩ = some (.slice ai (S i).length ci) ∧ w.cell? ⟨gX, i, none⟩ = some (.slice bi (S i).length di) ∧ Spa w ai (S i) ∧ Spa w bi (S i)
theorem en_of {own : Nat → Nat} {w : World} {q : Nat} {B R : Bool → Nat} {b : Bool → Bf} {P : Bool → List Int} {aR aW aS aX : Option Addr} {nR nS cR cW cS cX : Nat} {rs ws ss xs : List Value} {C : Nat → List Int} {S : Nat → List Sp} (h : Wo4 own w q B R b P (.slice aR nR cR) (.slice aW nR cW) (.slice aS nS cS) (.slice aX nS cX) rs ws ss xs C S) (h1 : rs.length = nR) (h2 : ws.length = nR) (h3 : ss.length = nS) (h4 : xs.length = nS) : En w q aR aW aS aX nR nS cR cW cS cX rs ws ss xs C S := by
  refine ⟨cell_of_row _ _ 4 _ _ _ h.x.box, cell_of_row _ _ 5 _ _ _ h.x.box, cell_of_row _ _ 6 _ _ _ h.x.box, cell_of_row _ _ 7 _ _ _ h.x.box, fun i hi => ?_, fun i hi => ?_⟩
  · obtain ⟨v, hv⟩ : ∃ v, rs[i]? = some v := ⟨_, List.getElem?_eq_getElem (by omega)⟩
    obtain ⟨u, hu⟩ : ∃ v, ws[i]? = some v := ⟨_, List.getElem?_eq_getElem (by omega)⟩
    have hb := h.l.r3 i v hv
    obtain ⟨ai, ci, rfl⟩ := hb.shape
    obtain ⟨gR, e1, e2⟩ := row_at h.l.r1 hv
    obtain ⟨gW, e3, e4⟩ := row_at h.l.w1 hu
    rw [h.l.w3 i u hu] at e4
    exact ⟨gR, gW, ai, ci, e1, e3, e2, e4, fun nd => convB _ _ _ _ _ rfl (own_liesB (hb.drewN nd))⟩
  · obtain ⟨v, hv⟩ : ∃ v, ss[i]? = some v := ⟨_, List.getElem?_eq_getElem (by omega)⟩
    obtain ⟨u, hu⟩ : ∃ v, xs[i]? = some v := ⟨_, List.getElem?_eq_getElem (by omega)⟩
    have hb := h.l.s3 i v hv
    have hb' := h.l.x3 i u hu
    obtain ⟨ai, ci, rfl⟩ := hb.shape
    obtain ⟨bi, di, rfl⟩ := hb'.shape
    obtain ⟨gR, e1, e2⟩ := row_at h.l.s1 hv
    obtain ⟨gW, e3, e4⟩ := row_at h.l.x1 hu
    exact ⟨gR, gW, ai, ci, bi, di, e1, e3, e2, e4, hb.spa, hb'.spa⟩

set_option maxHeartbeats 32000000 in
set_option maxRecDepth 100000 in
theorem ends_any (base q n : Nat) (w : World) (h : Ws4 base w q n) (hnn : n ≤ 274877906944) :
    Calls Tryd.prog 8 #[.pointer (some ⟨q, 0, none⟩)] w fun e w' => e = .returned (.bool true) ∧ Below base w w' := by
  obtain ⟨own, B, R, b, P, vr, vw, vs, vx, rs, ws, ss, xs, C, S, hW, hl1, hl2, hl3, hl4, hC, hS, h0, hbs⟩ := h
  obtain ⟨nR, hnR⟩ : ∃ n, rs.length = n := ⟨_, rfl⟩
  obtain ⟨m, hm⟩ : ∃ n, ss.length = n := ⟨_, rfl⟩
  obtain ⟨aR, cR, rfl⟩ := own_shape hW.l.r1
  obtain ⟨aW, cW, rfl⟩ := own_shape hW.l.w1
  obtain ⟨aS, cS, rfl⟩ := own_shape hW.l.s1
  obtain ⟨aX, cX, rfl⟩ := own_shape hW.l.x1
  have hnb : nR ≤ 549755813888 := by omega
  have hmb : m ≤ 549755813888 := by omega
  have HM : Hid (ss.length = m) := hm
  rw [← hl1, ← hl2, hnR, hm] at hW
  have HEn : Hid (En w q aR aW aS aX nR m cR cW cS cX rs ws ss xs C S) := en_of hW hnR (by omega) hm (by omega)
  have HLnn : Hid ((∀ j, (S j).length ≤ 2000) ∧ ∀ j, (C j).length ≤ 65536) := ⟨hS, hC⟩
  have HOw : Hid (∀ V, Dw w V → Calls Tryd.prog 32 #[.slice aR nR cR] V fun e w' => e = .returned (.bool true) ∧ Kt4 tR own V w') := fun V hV => by
    obtain ⟨nd, rfl⟩ := hV
    have h9 := owned4_all tR tR_tg aR cR own rs C (w.drewN nd) ⟨fun j v _ hv => (hW.l.r3 j v hv).drewN nd, fun j v g _ hv hg => hW.l.r4 j v g hv hg⟩ (row_nam (w := w.drewN nd) (e := 36) (n := nR) (c := cR) hW.l.r1 hW.l.r2 ⟨fun j => by unfold tR; omega, by omega⟩) (by omega) (fun j => Nat.le_trans (hC j) (by omega))
    rw [hnR] at h9
    exact h9
  have HK0 : Hid (∀ V V', Dw w V → Kt4 tR own V V' → (Ls4 tS (tg own w 0) V' ss S 0 ∧ Nam4 tS (tg own w 0) V' aS ss ∧ V'.heap[q]? = some (.cells (bxW B R (.slice aR nR cR) (.slice aW nR cW) (.slice aS m cS) (.slice aX m cX)) 33 (0, 0)) ∧ ((∀ j, tg own w 0 q ≠ tS j) ∧ tg own w 0 q ≠ 5) ∧ Below base w V' ∧ (∀ g, g < base → tg own w 0 g = 0) ∧ base ≤ V'.heap.size)) := fun V V' hV hK => by
    obtain ⟨nd, rfl⟩ := hV
    have hsz : w.heap.size ≤ V'.heap.size := hK.size
    have hold : ∀ g, g < w.heap.size → tg own w 0 g = own g := fun _ => tg_old
    have hq : tg own w 0 q = 1 := (hold q hW.x.lt).trans hW.x.tag
    have hkeep : ∀ g t, g < w.heap.size → own g = t → (∀ j, t ≠ tR j) → t ≠ 5 → V'.heap[g]? = w.heap[g]? := fun g t hg ht h1 h2 => hK.block g hg (fun j => by rw [ht]; exact h1 j) (by rw [ht]; exact h2)
    have hse : V'.ownsRow 0 59 1 (.slice aS m cS) ss.length ss := own_blk4 hW.l.s1 (fun g hg => hkeep g 4 (World.ownsRow.lt hW.l.s1 g hg).2 (hW.l.s2 g hg) (fun j => by unfold tR; omega) (by omega))
    refine ⟨⟨fun j v _ hv => (hW.l.s3 j v hv).blkE (fun g hg => hkeep g (21 + 2 * j) ((hW.l.s3 j v hv).lt g hg).2 (hW.l.s4 j v g hv hg) (fun i => by unfold tR; omega) (by omega)), fun j v g _ hv hg => (hold g ((hW.l.s3 j v hv).lt g hg).2).trans (hW.l.s4 j v g hv hg)⟩,
      row_nam hse (fun g hg => (hold g (World.ownsRow.lt hW.l.s1 g hg).2).trans (hW.l.s2 g hg)) ⟨fun j => by unfold tS; omega, by omega⟩,
      (hkeep q 1 hW.x.lt hW.x.tag (fun j => by unfold tR; omega) (by omega)).trans hW.x.box, by rw [hq]; exact ⟨fun j => by unfold tS; omega, by omega⟩, ⟨hK.os, hK.tape, hK.output, hK.size, fun g hg => hkeep g 0 (by omega) (h0 g hg) (fun j => by unfold tR; omega) (by omega)⟩, fun g hg => (hold g (by omega)).trans (h0 g hg), by omega⟩
  obtain ⟨bxx, hbxx⟩ : ∃ x, bxW B R (.slice aR nR cR) (.slice aW nR cW) (.slice aS m cS) (.slice aX m cX) = x := ⟨_, rfl⟩
  have HB6 : Hid (bxx[6]? = some (.slice aS m cS)) := by rw [← hbxx]; rfl
  obtain ⟨own2, hown2⟩ : ∃ x, tg own w 0 = x := ⟨_, rfl⟩
  rw [hbxx, hown2] at HK0
  clear hW hl1 hl2 hl3 hl4 hC hS h0 hbs hnR hm hbxx hown2
  obtain ⟨i1, hi1, hy0, hy1, hy2⟩ := info_parts br_spansE
  obtain ⟨i0, hi0, hz0, hz1, hz2⟩ := info_parts Tryd.info_span
  go_enter Tryd.func8, Tryd.ntmps8
  obtain ⟨Z, hZ⟩ : ∃ Z, w = Z := ⟨_, rfl⟩
  rw [hZ] at HEn HOw HK0 ⊢
  clear hZ
  go_wp2_with fail
  go_loopw [3] (fun v wr => Lp5 Z nR v wr) (fun v _ => nR - (intOf v).toNat)
  case atStart => exact lp5 (nd := 0) (p := 0) rfl (by omega)
  case round =>
    obtain ⟨i, nd, rfl, hi, hwr⟩ := hrel
    have HW : Hid (wr = Z.drewN nd) := hwr
    have HD : Hid (Dw Z wr) := ⟨nd, hwr⟩
    clear hwr
    have e4 := HD.out.cell HEn.out.c4
    by_cases hlt : i = nR
    · subst hlt
      have hz : ¬ (i : Int) < (i : Int) := by omega
      go_wp2
      clear e4
      go_loopw [4] (fun v wr => ∃ p : Nat, v = .int .i64 p ∧ p ≤ m ∧ Dw Z wr) (fun v _ => m - (intOf v).toNat)
      case atStart => exact ⟨0, rfl, by omega, HD.out⟩
      case round =>
        clear HD HW
        obtain ⟨j, rfl, hj, hD⟩ := hrel
        have HD : Hid (Dw Z wr) := hD
        clear hD
        have e6 := HD.out.cell HEn.out.c6
        have e7 := HD.out.cell HEn.out.c7
        by_cases hjm : j = m
        · have hjm2 := hjm.symm
          clear hjm
          subst hjm2
          have hz2 : ¬ (m : Int) < (m : Int) := by omega
          have e4 := HD.out.cell HEn.out.c4
          have hOw := HOw.out wr HD.out
          go_upto_region 13 with (first
            | (go_at_call 32
               refine hOw.mono ?_
               rintro e W2 ⟨rfl, hK⟩
               have HA : Hid _ := HK0.out wr W2 HD.out hK
               clear hK hOw e4 e6 e7))
          have HLo0 : Hid (Ls4 tS own2 W2 ss S 0) := HA.out.1
          have HNm : Hid (Nam4 tS own2 W2 aS ss) := HA.out.2.1
          have HQ : Hid (W2.heap[q]? = some (.cells bxx 33 (0, 0)) ∧ ((∀ j, own2 q ≠ tS j) ∧ own2 q ≠ 5)) := ⟨HA.out.2.2.1, HA.out.2.2.2.1⟩
          have HBe : Hid (Below base Z W2 ∧ (∀ g, g < base → own2 g = 0) ∧ base ≤ W2.heap.size) := HA.out.2.2.2.2
          obtain ⟨len, hlen⟩ : ∃ f : Nat → Nat, (fun j => (S j).length) = f := ⟨_, rfl⟩
          have HLen : Hid (∀ j, (S j).length = len j) := fun j => by rw [← hlen]
          have HLb : Hid (∀ j, len j ≤ 2000) := fun j => by rw [← hlen]; exact HLnn.out.1 j
          clear HA hlen HD HEn HOw HK0 hz hz2
          go_wp2
          go_loopw [7] (fun v wr => ∃ (j : Nat) (Cs : Nat → List Sp), v = .int .i64 j ∧ j ≤ m ∧ Ls4 tS own2 wr ss Cs 0 ∧ (∀ qq, (Cs qq).length = len qq) ∧ (∀ qq, qq < j → Cs qq = mkE qq (len qq)) ∧ Kt4 tS own2 W2 wr) (fun v _ => m - (intOf v).toNat)
          case atStart => exact ⟨0, S, rfl, by omega, HLo0.out, HLen.out, fun qq hq => by omega, Kt4.refl _ _ _⟩
          case round =>
            clear HLo0
            obtain ⟨j, Cs, rfl, hj, hLo, hCl, hCm, hK⟩ := hrel
            have HLo : Hid (Ls4 tS own2 wr ss Cs 0) := hLo
            have HCl : Hid (∀ qq, (Cs qq).length = len qq) := hCl
            have HCm : Hid (∀ qq, qq < j → Cs qq = mkE qq (len qq)) := hCm
            have HK : Hid (Kt4 tS own2 W2 wr) := hK
            have q6 := (box_at HK.out HQ.out.1 HQ.out.2 6).trans HB6.out
            clear hLo hCl hCm hK
            by_cases hjm : j = m
            · subst hjm
              have hz : ¬ (j : Int) < (j : Int) := by omega
              have HL1 : Hid (Ls4 tS own2 wr ss (fun qq => mkE qq (len qq)) 0) := by
                refine ⟨fun qq v hq hv => ?_, HLo.out.tk⟩
                have := HLo.out.kr qq v hq hv
                rw [HCm.out qq (by have := (List.getElem?_eq_some_iff.mp hv).1; have := HM.out; omega)] at this
                exact this
              clear HLo HCl HCm
              go_wp2
              go_loopw [9, 10] (fun v5 v6 wr => ∃ (i : Nat) (VL : List Value) (own4 : Nat → Nat), v6 = .int .i64 i ∧ i ≤ j ∧ VL.length = 2 * i ∧ Ls4 tS own4 wr ss (fun qq => mkE qq (len qq)) i ∧ Gs4 tS own4 wr v5 VL len ∧ Kt4 tS own2 W2 wr ∧ (∀ g, g < W2.heap.size → own4 g = own2 g)) (fun _ v _ => j - (intOf v).toNat)
              case atStart => exact ⟨0, [], own2, rfl, by omega, rfl, HL1.out, ⟨World.ownsRow_nil _ _ _ _, fun g hg => by simp [Value.ownBlock] at hg, fun qq v hv => by simp at hv, fun qq v g hv => by simp at hv⟩, HK.out, fun _ _ => rfl⟩
              case round =>
                clear HL1 HK
                obtain ⟨i, VL, own4, rfl, hi, hVl, hLo, hGa, hK, ho4⟩ := hrel
                have HVl : Hid (VL.length = 2 * i) := hVl
                obtain ⟨aL, cL, hu5⟩ := own_shape hGa.vl
                obtain ⟨nL, hnL⟩ : ∃ n, 2 * i = n := ⟨_, rfl⟩
                rw [hVl, hnL] at hu5
                have HnL : Hid (2 * i = nL) := hnL
                have hnL2 : nL ≤ 2199023255552 := by omega
                subst hu5
                have HLo : Hid (Ls4 tS own4 wr ss (fun qq => mkE qq (len qq)) i) := hLo
                have HGa : Hid (Gs4 tS own4 wr (.slice aL nL cL) VL len) := hGa
                have HK : Hid (Kt4 tS own2 W2 wr) := hK
                have q6 := (box_at HK.out HQ.out.1 HQ.out.2 6).trans HB6.out
                have HO4 : Hid (∀ g, g < W2.heap.size → own4 g = own2 g) := ho4
                clear hVl hLo hGa hK ho4 hnL
                by_cases hij : i = j
                · subst hij
                  have hzz : ¬ (i : Int) < (i : Int) := by omega
                  clear HLo
                  obtain ⟨Z2, hZ⟩ : ∃ Z2, wr = Z2 := ⟨_, rfl⟩
                  rw [hZ] at HGa HK q6 ⊢
                  clear hZ
                  go_wp2
                  go_loopw [13] (fun v9 wr => Lp4 Z2 nL v9 wr) (fun v _ => nL - (intOf v).toNat)
                  case atStart => exact lp4 (p := 0) rfl (by omega)
                  case round =>
                    obtain ⟨p, rfl, hp, hwr⟩ := hrel
                    rw [hwr]
                    clear hwr
                    by_cases hpm : p = nL
                    · subst hpm
                      have hz8 : ¬ (p : Int) < (p : Int) := by omega
                      go_wp2
                      go_ret
                      exact ⟨rfl, HBe.out.1.trans ⟨HK.out.os, HK.out.tape, HK.out.output, HK.out.size, fun g hg => HK.out.block g (Nat.lt_of_lt_of_le hg HBe.out.2.2) (fun j => by rw [HBe.out.2.1 g hg]; unfold tS; omega) (by rw [HBe.out.2.1 g hg]; omega)⟩⟩
                    · have hz8 : (p : Int) < (nL : Int) := by omega
                      have hwp : IntKind.i64.wrap ((p : Int) + 1) = (p : Int) + 1 := by rw [IntKind.wrap_i64]; omega
                      obtain ⟨u, hu⟩ : ∃ v, VL[p]? = some v := ⟨_, List.getElem?_eq_getElem (by rw [HVl.out, HnL.out]; omega)⟩
                      have hkr := HGa.out.kr p u hu
                      obtain ⟨gL, cL', eL⟩ := own_some HGa.out.vl (by rw [HVl.out, HnL.out]; omega)
                      obtain ⟨rfl, hmm, rfl⟩ : aL = some ⟨gL, 0, none⟩ ∧ nL = VL.length ∧ cL = cL' := by simpa using eL
                      have e8 : Z2.cell? ⟨gL, p, none⟩ = some u := by
                        have h7 := HGa.out.vl
                        rw [HVl.out, HnL.out] at h7
                        exact (World.ownsRow.cellAt h7 p (by omega)).trans hu
                      obtain ⟨a8, c8, rfl⟩ := hkr.shape
                      obtain ⟨n, hnn⟩ : ∃ n, (mkE (p / 2) (len (p / 2) + 40 * (1 - p % 2))).length = n := ⟨_, rfl⟩
                      have hnb : n ≤ 1048616 := by rw [← hnn, mkE_len]; have := HLb.out (p / 2); omega
                      rw [hnn] at e8 hkr
                      have HKr : Hid (SOwn Z2 0 (.slice a8 n c8) (mkE (p / 2) (len (p / 2) + 40 * (1 - p % 2)))) := hkr
                      have HNn : Hid (len (p / 2) + 40 * (1 - p % 2) = n) := by show _ = _; rw [← hnn, mkE_len]
                      obtain ⟨p2, hp2⟩ : ∃ p2, p / 2 = p2 := ⟨_, rfl⟩
                      have hp2l : p2 ≤ 2199023255552 := by omega
                      have hdv : (p : Int).tdiv 2 = (p2 : Int) := by rw [← hp2]; rfl
                      have HM0 : Hid (sE (p / 2) = (-1 - (p2 : Int), 0)) := by show sE _ = _; unfold sE; rw [hp2]
                      clear hu hkr eL hmm hnn hp2
                      go_wp2
                      go_loopw [14] (fun v10 wr' => Lp4 Z2 n v10 wr') (fun v _ => n - (intOf v).toNat)
                      case atStart => exact lp4 (p := 0) rfl (by omega)
                      case round =>
                        obtain ⟨qq, rfl, hq, hwr⟩ := hrel
                        rw [hwr]
                        clear hwr
                        by_cases hqn : qq = n
                        · subst hqn
                          have hz9 : ¬ (qq : Int) < (qq : Int) := by omega
                          go_wp2
                          exact ⟨lp4 (p := p + 1) (by simp) (by omega), by simp [intOf]; omega⟩
                        · have hz9 : (qq : Int) < (n : Int) := by omega
                          have hwq : IntKind.i64.wrap ((qq : Int) + 1) = (qq : Int) + 1 := by rw [IntKind.wrap_i64]; omega
                          obtain ⟨g9, c9, e9⟩ := HKr.out.someE (by rw [mkE_len, HNn.out]; omega)
                          obtain ⟨rfl, hmm, rfl⟩ : a8 = some ⟨g9, 0, none⟩ ∧ n = (mkE (p / 2) (len (p / 2) + 40 * (1 - p % 2))).length ∧ c8 = c9 := by simpa using e9
                          obtain ⟨t0, t1, _, _⟩ := HKr.out.cellsE (k := qq) (p := sE (p / 2)) (mkE_at (by rw [HNn.out]; omega))
                          rw [HM0.out] at t0 t1
                          simp only at t0 t1
                          have hx1 : IntKind.i64.wrap (-1 - (p2 : Int)) = -1 - (p2 : Int) := by rw [IntKind.wrap_i64]; omega
                          clear e9 hmm
                          go_wp2
                          exact ⟨lp4 (p := qq + 1) (by simp) (by omega), by simp [intOf]; omega⟩
                · have hzz : (i : Int) < (j : Int) := by omega
                  have hwi : IntKind.i64.wrap ((i : Int) + 1) = (i : Int) + 1 := by rw [IntKind.wrap_i64]; omega
                  obtain ⟨vi, hvi⟩ : ∃ v, ss[i]? = some v := ⟨_, List.getElem?_eq_getElem (by rw [HM.out]; omega)⟩
                  have hkr := HLo.out.kr i vi (Nat.le_refl _) hvi
                  have htk := fun g => HLo.out.tk i vi g (Nat.le_refl _) hvi
                  obtain ⟨ai, ci, rfl⟩ := hkr.shape
                  obtain ⟨gl, off, rfl, e6⟩ := HNm.out.at HK.out hvi
                  obtain ⟨ni, hni⟩ : ∃ n, len i = n := ⟨_, rfl⟩
                  have hnb : ni ≤ 1048576 := by have := HLb.out i; omega
                  rw [mkE_len, hni] at hkr htk e6 hvi
                  have HNi : Hid (len i = ni) := hni
                  have HVi : Hid (ss[i]? = some (.slice ai ni ci)) := hvi
                  have HKr : Hid (SOwn wr 0 (.slice ai ni ci) (mkE i ni)) := hkr
                  have HTi : Hid (∀ g, (Value.slice ai ni ci).ownBlock = some g → own4 g = tS i) := htk
                  have HLn : Hid (Ls4 tS own4 wr ss (fun qq => mkE qq (len qq)) (i + 1)) := HLo.out.next
                  clear HLo hkr htk hvi hni
                  go_wp2
                  clear e6
                  go_loopw [11, 12] (fun v7 v8 wr => ∃ (k : Nat) (own5 : Nat → Nat), v8 = .int .i64 k ∧ k ≤ 40 ∧ Ls4 tS own5 wr ss (fun qq => mkE qq (len qq)) (i + 1) ∧ Gs4 tS own5 wr (.slice aL nL cL) VL len ∧ (SOwn wr 0 (.slice ai ni ci) (mkE i ni) ∧ ∀ g, (Value.slice ai ni ci).ownBlock = some g → own5 g = tS i) ∧ SOwn wr 0 v7 (mkE i (ni + k)) ∧ (∀ g, v7.ownBlock = some g → own5 g = tS i) ∧ Kt4 tS own2 W2 wr ∧ (∀ g, g < W2.heap.size → own5 g = own2 g)) (fun _ v _ => 40 - (intOf v).toNat)
                  case atStart => exact ⟨0, own4, rfl, by omega, HLn.out, HGa.out, ⟨HKr.out, HTi.out⟩, HKr.out, HTi.out, HK.out, HO4.out⟩
                  case round =>
                    clear HLn HKr HTi HGa HK HO4
                    obtain ⟨k, own5, rfl, hk, hLo, hGa, hI, hS7, hT7, hK, ho5⟩ := hrel
                    obtain ⟨a7, c7, hu7⟩ := hS7.shape
                    obtain ⟨n7, hn7⟩ : ∃ n, ni + k = n := ⟨_, rfl⟩
                    rw [mkE_len, hn7] at hu7
                    subst hu7
                    have HN7 : Hid (ni + k = n7 ∧ n7 ≤ 1048616 ∧ (mkE i (ni + k)).length = n7) := ⟨hn7, by omega, by rw [mkE_len]; exact hn7⟩
                    have HLo : Hid (Ls4 tS own5 wr ss (fun qq => mkE qq (len qq)) (i + 1)) := hLo
                    have HGa : Hid (Gs4 tS own5 wr (.slice aL nL cL) VL len) := hGa
                    have HI : Hid (SOwn wr 0 (.slice ai ni ci) (mkE i ni) ∧ ∀ g, (Value.slice ai ni ci).ownBlock = some g → own5 g = tS i) := hI
                    have HS7 : Hid (SOwn wr 0 (.slice a7 n7 c7) (mkE i (ni + k))) := hS7
                    have HT7 : Hid (∀ g, (Value.slice a7 n7 c7).ownBlock = some g → own5 g = tS i) := hT7
                    have HK : Hid (Kt4 tS own2 W2 wr) := hK
                    have q6 := (box_at HK.out HQ.out.1 HQ.out.2 6).trans HB6.out
                    have HO5 : Hid (∀ g, g < W2.heap.size → own5 g = own2 g) := ho5
                    clear hLo hGa hI hS7 hT7 hK ho5 hn7
                    by_cases hk4 : k = 40
                    · subst hk4
                      obtain ⟨gl', off', he, e6⟩ := HNm.out.at HK.out HVi.out
                      cases he
                      go_wp2_with (first
                        | (at_builtin; refine wpList_append_own_at _ rfl _ _ 31 rfl 0 59 i1 (.slice none 0 0) 1 24 Tryd.underlying31 hi1 hy0 hy1 hy2 rfl (by decide) (.slice aL nL cL) VL.length VL rfl (World.ownsRow.alloc HGa.out.vl _) ⟨wr.heap.size, 0, none⟩ 2 2 [.slice a7 n7 c7, .slice ai ni ci] rfl rfl (cell_two_new _ _ _ _) (by simp [Value.oneCell']) (by unfold maxLen; have := HVl.out; omega) (by have := HVl.out; omega) (by simp) ?_
                           intro v6 w6 hown6 hgrow6 hnil6 hat6; clear hnil6
                           have HG6 : Hid (wr.grownBy w6 (Value.slice aL nL cL).ownBlock) := (World.grownBy_alloc wr _ _).trans hgrow6
                           have HO6 : Hid (w6.ownsRow 0 59 1 v6 (VL.length + 2) (VL ++ [.slice a7 n7 c7, .slice ai ni ci])) := hown6
                           have HA6 : Hid (v6.ownBlock = (Value.slice aL nL cL).ownBlock ∨ ∃ g, v6.ownBlock = some g ∧ wr.heap.size ≤ g) := hat6.imp id (fun e => ⟨_, e, by simp⟩)
                           clear hown6 hgrow6 hat6)
                        | go_in)
                      have ho6 : ∀ g, g < wr.heap.size → (if g < wr.heap.size then own5 g else 5) = own5 g := fun g hg => if_pos hg
                      have hpu := Gs4.push tS_tg HGa.out (i := i) HVl.out HG6.out HO6.out HA6.out (by rw [HNi.out]; exact HI.out.1) HI.out.2 (by rw [HNi.out]; exact HS7.out) HT7.out
                      exact ⟨⟨i + 1, _, _, by simp, by omega, by rw [List.length_append, HVl.out]; simp; omega, HLo.out.keep HG6.out ho6 (fun g hg => HGa.out.tvl g hg) (fun qq hq => by have := tS_tg.big qq; omega), hpu, HK.out.grown HG6.out (fun g hg hgl => .inl (by rw [← HO5.out g hgl, HGa.out.tvl g hg])), fun g hg => (ho6 g (Nat.lt_of_lt_of_le hg HK.out.size)).trans (HO5.out g hg)⟩, by simp [intOf]; omega⟩
                    · have hz4 : (k : Int) < 40 := by omega
                      have hwk : IntKind.i64.wrap ((k : Int) + 1) = (k : Int) + 1 := by rw [IntKind.wrap_i64]; omega
                      have hx1 : IntKind.i64.wrap (-1 - (i : Int)) = -1 - (i : Int) := by rw [IntKind.wrap_i64]; omega
                      have HMb : Hid (mkE i (ni + (k + 1)) = mkE i (ni + k) ++ [(-1 - (i : Int), 0)]) := by show _ = _; rw [← Nat.add_assoc, mkE_succ]; rfl
                      go_wp2_with (first
                        | (at_builtin; refine append_s4 _ rfl _ _ 59 rfl 38 i0 (.agg #[.int .i64 0, .int .i64 0]) 2 16 Tryd.underlying59 hi0 hz0 hz1 hz2 rfl (by decide) (.slice a7 n7 c7) (mkE i (ni + k)).length ((mkE i (ni + k)).flatMap spc) rfl (World.ownsRow.alloc HS7.out _) ⟨wr.heap.size, 0, none⟩ 1 [.int .i64 (-1 - (i : Int)), .int .i64 0] rfl rfl (cell_two_new _ _ _ _) (by simp [Value.oneCell']) (by have := HN7.out; omega) (by unfold maxLen; have := HN7.out; omega) ?_
                           intro v6 w6 hown6 hgrow6 hat6 hps6
                           have HG6 : Hid (wr.grownBy w6 (Value.slice a7 n7 c7).ownBlock) := (World.grownBy_alloc wr _ _).trans hgrow6
                           have HO6 : Hid (SOwn w6 0 v6 (mkE i (ni + k) ++ [(-1 - (i : Int), 0)])) := SOwn.appE (p := (-1 - (i : Int), 0)) hown6
                           have HA6 : Hid (v6.ownBlock = (Value.slice a7 n7 c7).ownBlock ∨ ∃ g, v6.ownBlock = some g ∧ wr.heap.size ≤ g) := hat6.imp id (fun ⟨g, e, e2⟩ => ⟨g, e, Nat.le_trans (by simp) e2⟩)
                           have HI6 : Hid (SOwn w6 0 (.slice ai ni ci) (mkE i ni)) := (hps6 _ _ _ (World.ownsRow.alloc HI.out.1 _) (fun g _ _ => ⟨by rw [mkE_len]; exact (mkE_flat i ni k).symm, by rw [mkE_len, mkE_len]; omega⟩))
                           clear hown6 hgrow6 hat6 hps6)
                        | go_in)
                      have ho6 : ∀ g, g < wr.heap.size → (if g < wr.heap.size then own5 g else tS i) = own5 g := fun g hg => if_pos hg
                      refine ⟨⟨k + 1, fun g => if g < wr.heap.size then own5 g else tS i, by simp, by omega, HLo.out.keep HG6.out ho6 (fun g hg => HT7.out g hg) (fun qq hq e => by have := tS_tg.inj _ _ e; omega), HGa.out.keep HG6.out ho6 (fun g hg => HT7.out g hg) (by have := tS_tg.big i; omega) (fun qq hq e => by have := HVl.out; have := tS_tg.inj _ _ e; omega), ⟨HI6.out, fun g hg => (ho6 g (HI.out.1.lt g hg).2).trans (HI.out.2 g hg)⟩, ?_, fun g hg => ?_, HK.out.grown HG6.out (fun g hg hgl => .inr ⟨i, by rw [← HO5.out g hgl, HT7.out g hg]⟩), fun g hg => (ho6 g (Nat.lt_of_lt_of_le hg HK.out.size)).trans (HO5.out g hg)⟩, by simp [intOf]; omega⟩
                      · rw [HMb.out]; exact HO6.out
                      · show (if g < wr.heap.size then own5 g else tS i) = tS i
                        rcases HA6.out with qq | ⟨g', qq, q2⟩
                        · rw [if_pos (HS7.out.lt g (qq ▸ hg)).2]; exact HT7.out g (qq ▸ hg)
                        · have e2 : g' = g := Option.some.inj (qq.symm.trans hg)
                          rw [if_neg (by omega)]
            · have hz : (j : Int) < (m : Int) := by omega
              have hwj : IntKind.i64.wrap ((j : Int) + 1) = (j : Int) + 1 := by rw [IntKind.wrap_i64]; omega
              obtain ⟨vj, hvj⟩ : ∃ v, ss[j]? = some v := ⟨_, List.getElem?_eq_getElem (by rw [HM.out]; omega)⟩
              obtain ⟨aj, cj, rfl⟩ := (HLo.out.kr j vj (Nat.zero_le _) hvj).shape
              obtain ⟨nj, hnj⟩ : ∃ n, len j = n := ⟨_, rfl⟩
              have HNj : Hid (len j = nj) := hnj
              have hnb : nj ≤ 1048576 := by have := HLb.out j; omega
              rw [HCl.out j, hnj] at hvj
              have HVj : Hid (ss[j]? = some (.slice aj nj cj)) := hvj
              clear hvj hnj
              go_wp2
              go_loopw [8] (fun v4 wr => ∃ (k : Nat) (Cs : Nat → List Sp), v4 = .int .i64 k ∧ k ≤ nj ∧ Ls4 tS own2 wr ss Cs 0 ∧ (∀ qq, (Cs qq).length = len qq) ∧ (∀ qq, qq < j → Cs qq = mkE qq (len qq)) ∧ (∀ qq : Nat, qq < k → (Cs j)[qq]? = some (sE j)) ∧ Kt4 tS own2 W2 wr) (fun v _ => nj - (intOf v).toNat)
              case atStart => exact ⟨0, Cs, rfl, by omega, HLo.out, HCl.out, HCm.out, fun qq hq => by omega, HK.out⟩
              case round =>
                clear HLo HCl HCm HK
                obtain ⟨k, Cs2, rfl, hk, hLo, hCl, hCm, hCk, hK⟩ := hrel
                have HLo : Hid (Ls4 tS own2 wr ss Cs2 0) := hLo
                have HCl : Hid (∀ qq, (Cs2 qq).length = len qq) := hCl
                have HCm : Hid (∀ qq, qq < j → Cs2 qq = mkE qq (len qq)) := hCm
                have HCk : Hid (∀ qq : Nat, qq < k → (Cs2 j)[qq]? = some (sE j)) := hCk
                have HK : Hid (Kt4 tS own2 W2 wr) := hK
                have q6 := (box_at HK.out HQ.out.1 HQ.out.2 6).trans HB6.out
                obtain ⟨gl, off, rfl, e6⟩ := HNm.out.at hK HVj.out
                have HGl : Hid ((∀ qq, own2 gl ≠ tS qq) ∧ own2 gl ≠ 5) := by
                  rcases HNm.out with h | ⟨gl', off', he, h0, _⟩
                  · have := HVj.out; rw [h] at this; simp at this
                  · cases he; exact h0
                clear hLo hCl hCm hCk hK
                by_cases hkn : k = nj
                · subst hkn
                  have hz2 : ¬ (k : Int) < (k : Int) := by omega
                  go_wp2
                  refine ⟨⟨j + 1, Cs2, by simp, by omega, HLo.out, HCl.out, fun qq hq => ?_, HK.out⟩, by simp [intOf]; omega⟩
                  by_cases e : qq = j
                  · subst e
                    rw [HNj.out]
                    exact all_mkE (by rw [HCl.out qq, HNj.out]) HCk.out
                  · exact HCm.out qq (by omega)
                · have hz2' : (k : Int) < (nj : Int) := by omega
                  have hwk : IntKind.i64.wrap ((k : Int) + 1) = (k : Int) + 1 := by rw [IntKind.wrap_i64]; omega
                  have hkr := HLo.out.kr j _ (Nat.zero_le _) HVj.out
                  obtain ⟨gj, capj, ej⟩ := hkr.someE (by rw [HCl.out j, HNj.out]; omega)
                  obtain ⟨rfl, hmm, rfl⟩ : aj = some ⟨gj, 0, none⟩ ∧ nj = (Cs2 j).length ∧ cj = capj := by simpa using ej
                  obtain ⟨y1, hy⟩ : ∃ y, (Cs2 j)[k]? = some y := ⟨_, List.getElem?_eq_getElem (by omega)⟩
                  obtain ⟨t0, t1, f0, f1⟩ := hkr.cellsE hy
                  have hgt : own2 gj = tS j := HLo.out.tk j _ gj (Nat.zero_le _) HVj.out rfl
                  have HNe : Hid (gl ≠ gj) := fun e => HGl.out.1 j (e ▸ hgt)
                  have hx1 : IntKind.i64.wrap (-1 - (j : Int)) = -1 - (j : Int) := by rw [IntKind.wrap_i64]; omega
                  have HNew : Hid (Ls4 tS own2 ((wr.setCell ⟨gj, k * 2, none⟩ (.int .i64 (-1 - (j : Int)))).setCell ⟨gj, k * 2 + 1, none⟩ (.int .i64 0)) ss (fun qq => if qq = j then (Cs2 j).set k (-1 - (j : Int), 0) else Cs2 qq) 0) := Ls4.store tS_tg HLo.out (k := k) HVj.out (-1 - (j : Int)) 0
                  have HK2 : Hid (Kt4 tS own2 W2 ((wr.setCell ⟨gj, k * 2, none⟩ (.int .i64 (-1 - (j : Int)))).setCell ⟨gj, k * 2 + 1, none⟩ (.int .i64 0))) := HK.out.grown (row := some gj) ((grown_set _ _ _ _).trans (grown_set _ _ _ _)) (fun g hg _ => by cases hg; exact .inr ⟨j, hgt⟩)
                  clear hkr ej hmm hy hgt
                  go_wp2
                  refine ⟨⟨k + 1, _, by simp, by omega, HNew.out, fun qq => ?_, fun qq hq => ?_, fun qq hq => ?_, HK2.out⟩, by simp [intOf]; omega⟩
                  · by_cases e : qq = j
                    · subst e; rw [if_pos rfl, List.length_set]; exact HCl.out qq
                    · rw [if_neg e]; exact HCl.out qq
                  · rw [if_neg (by omega)]; exact HCm.out qq hq
                  · rw [if_pos rfl, List.getElem?_set]
                    by_cases e : k = qq
                    · rw [if_pos e, if_pos (by rw [HCl.out j, HNj.out]; omega)]; rfl
                    · rw [if_neg e]; exact HCk.out qq (by omega)
        · have hz2 : (j : Int) < (m : Int) := by omega
          have hwj : IntKind.i64.wrap ((j : Int) + 1) = (j : Int) + 1 := by rw [IntKind.wrap_i64]; omega
          obtain ⟨gS, gX, ai, ci, bi, di, rfl, rfl, s1, s2, s3, s4⟩ := HEn.out.set j (by omega)
          obtain ⟨nj, hnj⟩ : ∃ n, (S j).length = n := ⟨_, rfl⟩
          rw [hnj] at s1 s2
          have s1' := HD.out.cell s1
          have s2' := HD.out.cell s2
          have HSp : Hid (∀ V, Dw Z V → Calls Tryd.prog 27 #[.slice ai nj ci, .slice bi nj di] V fun e w' => e = .returned (.bool true) ∧ Dw Z w') := fun V hV => by
            obtain ⟨nd, rfl⟩ := hV
            refine (sameSpans4_eq ai bi ci di nj (S j) (Z.drewN nd) hnj (by have := HLnn.out.1 j; omega) (s3.drewN nd) (s4.drewN nd)).mono ?_
            rintro e w3 ⟨rfl, nd3, rfl⟩
            exact ⟨rfl, (Dw.drewN ⟨nd, rfl⟩ nd3)⟩
          have HSS : Hid (∀ V, Dw Z V → (V.cell? ⟨q, 6, none⟩ = some (.slice (some ⟨gS, 0, none⟩) m cS) ∧ V.cell? ⟨gS, j, none⟩ = some (.slice ai nj ci) ∧ V.cell? ⟨q, 7, none⟩ = some (.slice (some ⟨gX, 0, none⟩) m cX) ∧ V.cell? ⟨gX, j, none⟩ = some (.slice bi nj di))) := fun V hV => ⟨hV.cell HEn.out.c6, hV.cell s1, hV.cell HEn.out.c7, hV.cell s2⟩
          clear s1 s2 s3 s4 hnj
          go_upto_region 9 with fail
          go_cut [5] from 49 to 63 (fun v wx => v = .bool true ∧ Hid (Dw Z wx))
          case first =>
            go_region_held3 (fun V => (V.cell? ⟨q, 6, none⟩ = some (.slice (some ⟨gS, 0, none⟩) m cS) ∧ V.cell? ⟨gS, j, none⟩ = some (.slice ai nj ci) ∧ V.cell? ⟨q, 7, none⟩ = some (.slice (some ⟨gX, 0, none⟩) m cX) ∧ V.cell? ⟨gX, j, none⟩ = some (.slice bi nj di)))
              (first | exact HSS.out _ hD3.out | exact HSS.out _ HD.out | exact HSS.out _ HD.out.drew)
              (first
                | (go_at_call 27
                   refine (HSp.out _ HD.out.drew).mono ?_
                   rintro e w3 ⟨rfl, h3⟩
                   have hD3 : Hid (Dw Z w3) := h3
                   clear h3))
            all_goals (
              try go_wp2_with fail
              go_meet
              exact ⟨rfl, hD3⟩)
          case rest =>
            obtain ⟨rfl, HDx⟩ := hcut
            clear HD e6 e7 s1' s2'
            go_wp2
            exact ⟨⟨j + 1, by simp, by omega, HDx.out⟩, by simp [intOf]; omega⟩
    · have hlt' : (i : Int) < (nR : Int) := by omega
      have hwi : IntKind.i64.wrap ((i : Int) + 1) = (i : Int) + 1 := by rw [IntKind.wrap_i64]; omega
      have e5 := HD.out.cell HEn.out.c5
      obtain ⟨gR, gW, ai, ci, rfl, rfl, s1, s2, s3⟩ := HEn.out.row i (by omega)
      obtain ⟨ni, hni⟩ : ∃ n, (C i).length = n := ⟨_, rfl⟩
      rw [hni] at s1 s3
      have s1' := HD.out.cell s1
      have s2' := HD.out.cell s2
      generalize strOfNums (C i) = str at s2 s2' s3
      have k3 : ∀ n, (convert 36 9 (.slice ai ni ci)).run Tryd.prog (wr.drewN n) = .ok (.string str) (wr.drewN n) := fun n => by have := s3 (nd + n); rw [HW.out]; simpa [World.drewN, Nat.add_assoc] using this
      have k0 : (convert 36 9 (.slice ai ni ci)).run Tryd.prog wr = .ok (.string str) wr := k3 0
      have k1 : (convert 36 9 (.slice ai ni ci)).run Tryd.prog wr.drew = .ok (.string str) wr.drew := k3 1
      have HS5 : Hid (∀ V, Dw wr V → (V.cell? ⟨q, 4, none⟩ = some (.slice (some ⟨gR, 0, none⟩) nR cR) ∧ V.cell? ⟨gR, i, none⟩ = some (.slice ai ni ci) ∧ (convert 36 9 (.slice ai ni ci)).run Tryd.prog V = .ok (.string str) V ∧ V.cell? ⟨q, 5, none⟩ = some (.slice (some ⟨gW, 0, none⟩) nR cW) ∧ V.cell? ⟨gW, i, none⟩ = some (.string str))) := fun V hV => by
        refine ⟨hV.cell e4, hV.cell s1', ?_, hV.cell e5, hV.cell s2'⟩
        obtain ⟨n, rfl⟩ := hV
        exact k3 n
      clear s1 s2 s3 hni k3 k0 k1
      go_upto_region 4 with fail
      go_region_held3 (fun V => (V.cell? ⟨q, 4, none⟩ = some (.slice (some ⟨gR, 0, none⟩) nR cR) ∧ V.cell? ⟨gR, i, none⟩ = some (.slice ai ni ci) ∧ (convert 36 9 (.slice ai ni ci)).run Tryd.prog V = .ok (.string str) V ∧ V.cell? ⟨q, 5, none⟩ = some (.slice (some ⟨gW, 0, none⟩) nR cW) ∧ V.cell? ⟨gW, i, none⟩ = some (.string str)))
        (first | exact HS5.out _ (Dw.refl _) | exact HS5.out _ (Dw.refl _).drew)
        (fail)
      all_goals (
        have HD2 : Hid (Lp5 Z nR (.int .i64 ((i : Int) + 1)) wr.drew) := ⟨i + 1, nd + 1, by simp, by omega, by rw [HW.out]; rfl⟩
        clear e4 e5 s1' s2'
        go_wp2
        exact ⟨HD2.out, by simp [intOf]; omega⟩)

end Go.Proofs.YthkphihgdklbbaaDoor.C
