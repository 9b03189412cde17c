import Derived.Test.YthkphihgdklbbaaDoorBrCal
import Derived.ArgAppend
import Derived.Maps.AppendAt
import Derived.BigQuiet
import Derived.WalkSmall
import Derived.Test.YthkphihgdklbbaaDoorBbMath
namespace Go.Proofs.YthkphihgdklbbaaDoor.C
open Go.RowKit Go.Shelf
set_option linter.unusedVariables false
set_option linter.unusedSimpArgs false

theorem own_blk4 {w w' : World} {base n size : Nat} {e : TypeId} {v : Value} {xs : List Value} (h : w.ownsRow base e size v n xs) (hb : ∀ g, v.ownBlock = some g → w'.heap[g]? = w.heap[g]?) : w'.ownsRow base e size v n xs := by
  obtain ⟨h1, h2⟩ := h
  refine ⟨h1, ?_⟩
  rcases h2 with h2 | ⟨g, cap, cur, rfl, hg, hh, r⟩
  · exact .inl h2
  · exact .inr ⟨g, cap, cur, rfl, hg, (hb g rfl).trans hh, r⟩
theorem one_new4 (w : World) (a : Value) (t : TypeId) : ∀ j u, [a][j]? = some u → (w.alloc (.cells #[a] t)).cell? ((⟨w.heap.size, 0, none⟩ : Addr).add j) = some u := by
  intro j u hj
  match j, hj with
  | 0, hj => simp at hj; subst hj; simp [Addr.add]
/-- Tags of rows: told apart, and none is the list's. -/
structure Tg (T : Nat → Nat) : Prop where
  inj : ∀ i j, T i = T j → i = j
  big : ∀ i, 5 < T i
/-- What is no row's stays. -/
structure Kt4 (T own : Nat → Nat) (w w' : World) : Prop where
  os : w'.os = w.os
  tape : w'.tape = w.tape
  output : w'.output = w.output
  size : w.heap.size ≤ w'.heap.size
  block : ∀ g, g < w.heap.size → (∀ j, own g ≠ T j) → own g ≠ 5 → w'.heap[g]? = w.heap[g]?
theorem Kt4.refl (T own : Nat → Nat) (w : World) : Kt4 T own w w := ⟨rfl, rfl, rfl, Nat.le_refl _, fun _ _ _ _ => rfl⟩
theorem Kt4.grown {T own : Nat → Nat} {w0 w w' : World} {row : Option Nat} (h : Kt4 T own w0 w) (hg : w.grownBy w' row) (hr : ∀ k, row = some k → k < w0.heap.size → own k = 5 ∨ ∃ j, own k = T j) : Kt4 T own w0 w' :=
  ⟨hg.os.trans h.os, hg.tape.trans h.tape, hg.output.trans h.output, Nat.le_trans h.size hg.size, fun g hgl h0 h5 => (hg.block g (Nat.lt_of_lt_of_le hgl h.size) (fun e => (hr g e.symm hgl).elim h5 (fun ⟨j, hj⟩ => h0 j hj))).trans (h.block g hgl h0 h5)⟩
/-- Where the rows are named. -/
def Nam4 (T own : Nat → Nat) (w : World) (al : Option Addr) (os : List Value) : Prop := os = [] ∨ ∃ gl off, al = some ⟨gl, off, none⟩ ∧ ((∀ j, own gl ≠ T j) ∧ own gl ≠ 5) ∧ ∀ (i : Nat) v, os[i]? = some v → w.cell? ⟨gl, off + i, none⟩ = some v
theorem Nam4.at {T own : Nat → Nat} {w wr : World} {al : Option Addr} {os : List Value} (h : Nam4 T own w al os) (hk : Kt4 T own w wr) {i : Nat} {v : Value} (hi : os[i]? = some v) : ∃ gl off, al = some ⟨gl, off, none⟩ ∧ wr.cell? ⟨gl, off + i, none⟩ = some v := by
  rcases h with rfl | ⟨gl, off, ha, h0, hc⟩
  · simp at hi
  · have h1 := hc i v hi
    have hlt : gl < w.heap.size := World.block_lt_of_cell? w ⟨gl, off + i, none⟩ h1
    exact ⟨gl, off, ha, (World.cell?_of_block (a := ⟨gl, off + i, none⟩) (hk.block gl hlt h0.1 h0.2)).trans h1⟩

/-- AN APPEND OF ONE: in place, or in a new block; whatever begins as the row does keeps what it has. -/
theorem append_b4 {P : Program} (w : World) {ops : Array Oper} {rest : List Oper} {o : Oper} {a : Act} {Q : Exit → Act → World → Prop} (hgd : o.guard = none) (s x : Operand) (ts : TypeId)
    (ho : o.op = .call { callee := .builtin .append, args := #[s, x], argTypes := #[ts, ts] })
    (t : TypeId) (i : TypeInfo) (z : Value) (bytes : Nat) (ht : P.underlying ts = some (.slice t)) (hi : P.info? t = some i) (hz : i.zero = some z)
    (hsize : i.size = 1) (hby : i.bytes = bytes) (hzs : z.cells.size = 1)
    (v : Value) (n : Nat) (xs : List Value) (hs : a.eval s = v) (hown : w.ownsRow 0 t 1 v n xs)
    (ad : Addr) (cc : Nat) (b : Value) (hx : a.eval x = .slice (some ad) 1 cc) (hnews : ∀ j u, [b][j]? = some u → w.cell? (ad.add j) = some u) (h1 : b.oneCell' = true)
    (hbytes : (n + 1) * bytes ≤ 140737488355328) (h63 : n + 1 ≤ maxLen)
    (h : ∀ v' w', w'.ownsRow 0 t 1 v' (n + 1) (xs ++ [b]) → w.grownBy w' v.ownBlock → (v'.ownBlock = v.ownBlock ∨ ∃ g, v'.ownBlock = some g ∧ w.heap.size ≤ g) →
      (∀ u m ys, w.ownsRow 0 t 1 u m ys → (∀ g, u.ownBlock = some g → v.ownBlock = some g → ys = xs.take m ∧ m ≤ n) → w'.ownsRow 0 t 1 u m ys) → wpList P ops Q rest (a.put o.dst v') w') : wpList P ops Q (o :: rest) a w := by
  have h1c : ∀ u ∈ [b], u.oneCell' = true := fun u hu => by simp at hu; subst hu; exact h1
  have hgrows : ∀ (ao : Option Addr) (cap : Nat), v = .slice ao n cap → (ao = none → n = 0 ∧ cap = 0) → (∀ b, ao = some b → ∀ j u, xs[j]? = some u → w.cell? (b.add j) = some u) → cap < n + 1 → wpList P ops Q (o :: rest) a w := fun ao cap hv hnone holds hfull => by
    refine wpList_append_grows w hgd s x ts ho t i z 1 bytes ht hi hz hsize hby hzs (by decide) ao n cap xs (by rw [hs, hv]) hnone (by have := hown.1; omega) holds ad 1 cc [b] hx rfl hnews h1c hfull h63 hbytes ?_
    intro v' w' ho' hg'
    refine h v' w' ?_ ⟨hg'.os, hg'.tape, hg'.output, hg'.size, fun j hj _ => hg'.block j hj (by simp)⟩ (.inr ?_) (fun u m ys hu _ => ?_)
    · obtain ⟨k1, ⟨e, e0⟩ | ⟨g, cap', cur, e, q⟩⟩ := ho'
      · exact ⟨k1, .inl ⟨e, e0⟩⟩
      · exact ⟨k1, .inr ⟨g, cap', cur, e, Nat.zero_le _, q.2⟩⟩
    · obtain ⟨k1, ⟨e, e0⟩ | ⟨g, cap', cur, rfl, q, _⟩⟩ := ho'
      · omega
      · exact ⟨g, rfl, q⟩
    · obtain ⟨k1, ⟨e, e0⟩ | ⟨g, cap', cur, e, q1, q2, q3⟩⟩ := hu
      · exact ⟨k1, .inl ⟨e, e0⟩⟩
      · exact ⟨k1, .inr ⟨g, cap', cur, e, q1, (hg'.block g (Array.getElem?_eq_some_iff.mp q2).1 (by simp)).trans q2, q3⟩⟩
  obtain ⟨hxl, ⟨rfl, h0⟩ | ⟨g, cap, cur, rfl, hb, hg, e1, e2, e3, e4⟩⟩ := id hown
  · exact hgrows none 0 (by rw [h0]) (fun _ => ⟨h0, rfl⟩) (fun b hb => by cases hb) (by omega)
  · by_cases hfit : n + 1 ≤ cap
    · refine wpList_append_fits w hgd s x ts ho 0 t i 1 ht hi hsize g n cap xs hs hown ad 1 cc [b] hx rfl hnews h1c hfit ?_
      intro w' ho' hg'
      refine h _ w' ho' hg' (.inl rfl) (fun u m ys hu hp => ?_)
      obtain ⟨k1, ⟨e, f0⟩ | ⟨g2, cap2, cur2, rfl, f1, f2, f3, f4, f5, f6⟩⟩ := hu
      · exact ⟨k1, .inl ⟨e, f0⟩⟩
      · by_cases hgg : g2 = g
        · subst hgg
          obtain ⟨p1, p2⟩ := hp g2 rfl rfl
          rw [hg] at f2
          simp only [Option.some.injEq, Obj.cells.injEq] at f2
          obtain ⟨f2, _⟩ := f2
          subst f2
          obtain ⟨_, ⟨x0, _⟩ | ⟨g3, cap3, cur3, x0, x1, x2, x3, x4, x5, x6⟩⟩ := ho'
          · cases x0
          · simp only [Value.slice.injEq, Option.some.injEq, Addr.mk.injEq, and_true, true_and] at x0
            obtain ⟨rfl, rfl⟩ := x0
            refine ⟨k1, .inr ⟨g2, cap2, cur3, rfl, Nat.zero_le _, x2, f3, f4, by omega, ?_⟩⟩
            have e7 : cur3.toList.take (m * 1) = (cur3.toList.take ((n + 1) * 1)).take (m * 1) := by rw [List.take_take, Nat.min_eq_left (by omega)]
            rw [e7, x6, List.take_append_of_le_length (by omega), p1, Nat.mul_one]
        · exact ⟨k1, .inr ⟨g2, cap2, cur2, rfl, f1, (hg'.block g2 (Array.getElem?_eq_some_iff.mp f2).1 (fun e => hgg (Option.some.inj e))).trans f2, f3, f4, f5, f6⟩⟩
    · refine hgrows (some ⟨g, 0, none⟩) cap rfl (fun e => by cases e) (fun b hb j u hj => ?_) (by omega)
      cases hb
      exact World.ownsRow.cells (g := g) hown rfl j u hj

/-- A row of bytes of its own. -/
def BO4 (w : World) (base : Nat) (v : Value) (L : List Int) : Prop := w.ownsRow base 5 1 v L.length (L.map (Value.int .u8))
theorem BO4.shape {w : World} {base : Nat} {v : Value} {L : List Int} (h : BO4 w base v L) : ∃ a c, v = .slice a L.length c := by
  obtain ⟨_, ⟨e, e0⟩ | ⟨g, cap, cur, e, _⟩⟩ := h
  · exact ⟨none, 0, by rw [e, e0]⟩
  · exact ⟨_, _, e⟩
theorem BO4.lenEq {w : World} {base n c : Nat} {a : Option Addr} {L : List Int} (h : BO4 w base (.slice a n c) L) : L.length = n := by
  obtain ⟨a', c', e⟩ := h.shape
  simp only [Value.slice.injEq] at e
  exact e.2.1.symm
theorem BO4.lt {w : World} {base : Nat} {v : Value} {L : List Int} (h : BO4 w base v L) : ∀ g, v.ownBlock = some g → base ≤ g ∧ g < w.heap.size := World.ownsRow.lt h
theorem BO4.blk {w w' : World} {base : Nat} {v : Value} {L : List Int} (h : BO4 w base v L) (hb : ∀ g, v.ownBlock = some g → w'.heap[g]? = w.heap[g]?) : BO4 w' base v L := own_blk4 h hb
theorem BO4.some' {w : World} {base : Nat} {v : Value} {L : List Int} (h : BO4 w base v L) (hn : 0 < L.length) : ∃ g cap, v = .slice (some ⟨g, 0, none⟩) L.length cap := own_some h hn
theorem BO4.cell {w : World} {base g n cap k : Nat} {L : List Int} {x : Int} (h : BO4 w base (.slice (some ⟨g, 0, none⟩) n cap) L) (hk : L[k]? = some x) : w.cell? ⟨g, k, none⟩ = some (.int .u8 x) ∧ w.frozen? ⟨g, k, none⟩ = false := by
  have hn := h.lenEq
  subst hn
  have hkl : k < L.length := (List.getElem?_eq_some_iff.mp hk).1
  exact ⟨(World.ownsRow.cellAt h _ (by omega)).trans (by rw [List.getElem?_map, hk]; rfl), World.ownsRow.frozenAt h _⟩
theorem BO4.put {w : World} {base g n cap : Nat} {L : List Int} (h : BO4 w base (.slice (some ⟨g, 0, none⟩) n cap) L) (k : Nat) (x : Int) : BO4 (w.setCell ⟨g, k, none⟩ (.int .u8 x)) base (.slice (some ⟨g, 0, none⟩) n cap) (L.set k x) := by
  have hn := h.lenEq
  subst hn
  have h1 := (World.ownsRow.stored h k (.int .u8 x)).1
  unfold BO4
  rw [List.length_set, List.map_set]
  exact h1
theorem BO4.drewN {w : World} {base : Nat} {v : Value} {L : List Int} (h : BO4 w base v L) (n : Nat) : BO4 (w.drewN n) base v L := h


/-- The mark of row i. -/
def m4 (i : Nat) : Int := 1 + ((i % 250 : Nat) : Int)
def mk4 (i n : Nat) : List Int := List.replicate n (m4 i)
theorem mk4_len (i n : Nat) : (mk4 i n).length = n := by simp [mk4]
theorem mk4_at {i n k : Nat} (h : k < n) : (mk4 i n)[k]? = some (m4 i) := by simp [mk4, h]
theorem mk4_succ (i n : Nat) : mk4 i (n + 1) = mk4 i n ++ [m4 i] := by simp [mk4, List.replicate_succ']
theorem mk4_take (i n k : Nat) : (mk4 i (n + k)).take n = mk4 i n := by simp [mk4, List.take_replicate]
theorem all_mk4 {i n : Nat} {l : List Int} (hl : l.length = n) (h : ∀ q : Nat, q < n → l[q]? = some (m4 i)) : l = mk4 i n := by
  apply List.ext_getElem?
  intro q
  by_cases e : q < n
  · rw [h q e, mk4_at e]
  · rw [List.getElem?_eq_none (by omega), List.getElem?_eq_none (by rw [mk4_len]; omega)]
/-- Rows of bytes: their values, what they hold, whose their blocks are. -/
structure Lb4 (T own : Nat → Nat) (w : World) (os : List Value) (Cs : Nat → List Int) (c : Nat) : Prop where
  kr : ∀ (j : Nat) v, c ≤ j → os[j]? = some v → BO4 w 0 v (Cs j)
  tk : ∀ (j : Nat) v g, c ≤ j → os[j]? = some v → v.ownBlock = some g → own g = T j
section
variable {T own own' : Nat → Nat} {w w' : World} {os : List Value} {Cs : Nat → List Int} {c : Nat}
theorem Lb4.keep {row : Option Nat} {t : Nat} (h : Lb4 T own w os Cs c) (hg : w.grownBy w' row) (ho : ∀ g, g < w.heap.size → own' g = own g) (hr : ∀ g, row = some g → own g = t) (hc : ∀ j, c ≤ j → t ≠ T j) : Lb4 T own' w' os Cs c :=
  ⟨fun j v hj hv => (h.kr j v hj hv).blk (fun g hgb => hg.block g ((h.kr j v hj hv).lt g hgb).2 (fun e => hc j hj ((hr g e.symm).symm.trans (h.tk j v g hj hv hgb)))), fun j v g hj hv hgb => (ho g ((h.kr j v hj hv).lt g hgb).2).trans (h.tk j v g hj hv hgb)⟩
theorem Lb4.store (hT : Tg T) (h : Lb4 T own w os Cs 0) {j k g n cap : Nat} (hj : os[j]? = some (.slice (some ⟨g, 0, none⟩) n cap)) (x : Int) :
    Lb4 T own (w.setCell ⟨g, k, none⟩ (.int .u8 x)) os (fun q => if q = j then (Cs j).set k x else Cs q) 0 := by
  refine ⟨fun q v hq hv => ?_, h.tk⟩
  by_cases e : q = j
  · subst e
    rw [hj] at hv
    cases hv
    show BO4 _ _ _ (if q = q then _ else _)
    rw [if_pos rfl]
    exact (h.kr q _ hq hj).put k x
  · show BO4 _ _ _ (if q = j then _ else _)
    rw [if_neg e]
    exact (h.kr q v hq hv).blk (fun g' hg' => heap_setCell_other _ _ _ _ (fun e2 => by
      have h1 := h.tk q v g' hq hv hg'
      have h2 := h.tk j _ g (Nat.zero_le _) hj rfl
      rw [show g' = g from e2] at h1
      exact e (hT.inj _ _ (h1.symm.trans h2))))
theorem Lb4.next (h : Lb4 T own w os Cs c) : Lb4 T own w os Cs (c + 1) := ⟨fun j v hj => h.kr j v (by omega), fun j v g hj => h.tk j v g (by omega)⟩
end
/-- The row of what has grown, two entries each. -/
structure Gb4 (T own : Nat → Nat) (w : World) (vL : Value) (VL : List Value) (len : Nat → Nat) : Prop where
  vl : w.ownsRow 0 36 1 vL VL.length VL
  tvl : ∀ g, vL.ownBlock = some g → own g = 5
  kr : ∀ (j : Nat) v, VL[j]? = some v → BO4 w 0 v (mk4 (j / 2) (len (j / 2) + 40 * (1 - j % 2)))
  tk : ∀ (j : Nat) v g, VL[j]? = some v → v.ownBlock = some g → own g = T (j / 2)
section
variable {T own own' : Nat → Nat} {w w' : World} {vL : Value} {VL : List Value} {len : Nat → Nat}
theorem Gb4.keep {row : Option Nat} {t : Nat} (h : Gb4 T own w vL VL len) (hg : w.grownBy w' row) (ho : ∀ g, g < w.heap.size → own' g = own g) (hr : ∀ g, row = some g → own g = t) (h5 : t ≠ 5) (hc : ∀ j, j < VL.length → t ≠ T (j / 2)) : Gb4 T own' w' vL VL len :=
  ⟨own_blk4 h.vl (fun g hgb => hg.block g (World.ownsRow.lt h.vl g hgb).2 (fun e => h5 ((hr g e.symm).symm.trans (h.tvl g hgb)))), fun g hgb => (ho g (World.ownsRow.lt h.vl g hgb).2).trans (h.tvl g hgb),
    fun j v hv => (h.kr j v hv).blk (fun g hgb => hg.block g ((h.kr j v hv).lt g hgb).2 (fun e => hc j (List.getElem?_eq_some_iff.mp hv).1 ((hr g e.symm).symm.trans (h.tk j v g hv hgb)))), fun j v g hv hgb => (ho g ((h.kr j v hv).lt g hgb).2).trans (h.tk j v g hv hgb)⟩
theorem Gb4.push (hT : Tg T) {w6 : World} {v6 u0 u : Value} {i : Nat} (h : Gb4 T own w vL VL len) (hi : VL.length = 2 * i) (hg : w.grownBy w6 vL.ownBlock) (hv6 : w6.ownsRow 0 36 1 v6 (VL.length + 2) (VL ++ [u, u0])) (hl6 : v6.ownBlock = vL.ownBlock ∨ ∃ g, v6.ownBlock = some g ∧ w.heap.size ≤ g)
    (hu0 : BO4 w 0 u0 (mk4 i (len i))) (ht0 : ∀ g, u0.ownBlock = some g → own g = T i) (hu : BO4 w 0 u (mk4 i (len i + 40))) (ht : ∀ g, u.ownBlock = some g → own g = T i) : Gb4 T (fun g => if g < w.heap.size then own g else 5) w6 v6 (VL ++ [u, u0]) len := by
  have ho : ∀ g, g < w.heap.size → (if g < w.heap.size then own g else 5) = own g := fun g hg => if_pos hg
  have key : ∀ (j : Nat) v, (VL ++ [u, u0])[j]? = some v → BO4 w 0 v (mk4 (j / 2) (len (j / 2) + 40 * (1 - j % 2))) ∧ ∀ g, v.ownBlock = some g → own g = T (j / 2) := fun j v hv => by
    rcases Nat.lt_or_ge j VL.length with q | q
    · rw [List.getElem?_append_left q] at hv
      exact ⟨h.kr j v hv, fun g => h.tk j v g hv⟩
    · rw [List.getElem?_append_right q] at hv
      have hlt := (List.getElem?_eq_some_iff.mp hv).1
      simp at hlt
      rcases (by omega : j - VL.length = 0 ∨ j - VL.length = 1) with e | e
      · rw [e] at hv
        simp at hv
        subst hv
        rw [show j / 2 = i by omega, show j % 2 = 0 by omega]
        exact ⟨by simpa using hu, ht⟩
      · rw [e] at hv
        simp at hv
        subst hv
        rw [show j / 2 = i by omega, show j % 2 = 1 by omega]
        exact ⟨by simpa using hu0, ht0⟩
  refine ⟨by rw [List.length_append]; exact hv6, fun g hgb => ?_, fun j v hv => ?_, fun j v g hv hgb => ?_⟩
  · show (if g < w.heap.size then own g else 5) = 5
    rcases hl6 with q | ⟨g', q, q2⟩
    · rw [ho g (World.ownsRow.lt h.vl g (q ▸ hgb)).2]; exact h.tvl g (q ▸ hgb)
    · have e2 : g' = g := Option.some.inj (q.symm.trans hgb)
      rw [if_neg (by omega)]
  · obtain ⟨k1, k2⟩ := key j v hv
    exact k1.blk (fun g hgb => hg.block g (k1.lt g hgb).2 (fun e => by have h1 := h.tvl g e.symm; have h2 := k2 g hgb; have h3 := hT.big (j / 2); omega))
  · obtain ⟨k1, k2⟩ := key j v hv
    exact (ho g (k1.lt g hgb).2).trans (k2 g hgb)
end
def Lp4 (Z : World) (N : Nat) (v : Value) (w : World) : Prop := ∃ p : Nat, v = .int .i64 p ∧ p ≤ N ∧ w = Z
theorem lp4 {Z : World} {N p : Nat} {v : Value} (hv : v = .int .i64 p) (h : p ≤ N) : Lp4 Z N v Z := ⟨p, hv, h, rfl⟩
theorem cell_set4 {w : World} {g i b o : Nat} {x : Value} (hb : b ≠ g) : (w.setCell ⟨g, i, none⟩ x).cell? ⟨b, o, none⟩ = w.cell? ⟨b, o, none⟩ := by
  simp only [World.cell?]
  rw [heap_setCell_other _ _ _ _ (by simpa using hb)]
theorem ob_rows4 : (Tryd.prog.info? 36).map (fun i => (i.zero, i.size, i.bytes)) = some (some (.slice none 0 0), 1, 24) := by kernel_rfl
theorem ob_u84 : (Tryd.prog.info? 5).map (fun i => (i.zero, i.size, i.bytes)) = some (some (.int .u8 0), 1, 1) := by kernel_rfl

set_option maxHeartbeats 32000000 in
set_option maxRecDepth 100000 in
/-- OWNED BYTES: rows of bytes in blocks of their own, any. -/
theorem owned4_all (T : Nat → Nat) (hT : Tg T) (al : Option Addr) (cl : Nat) (own : Nat → Nat) (os : List Value) (C0 : Nat → List Int) (w : World) (hLo : Lb4 T own w os C0 0) (hNm : Nam4 T own w al os) (hn : os.length ≤ 1099511627776) (hlc : ∀ j, (C0 j).length ≤ 1048576) :
    Calls Tryd.prog 32 #[.slice al os.length cl] w fun e w' => e = .returned (.bool true) ∧ Kt4 T own w w' := by
  obtain ⟨m, hm⟩ : ∃ m, os.length = m := ⟨_, rfl⟩
  have HM : Hid (os.length = m) := hm
  have HNm : Hid (Nam4 T own w al os) := hNm
  have HLo0 : Hid (Lb4 T own w os C0 0) := hLo
  rw [hm] at hn ⊢
  obtain ⟨len, hlen⟩ : ∃ f : Nat → Nat, (fun j => (C0 j).length) = f := ⟨_, rfl⟩
  have HLen : Hid (∀ j, (C0 j).length = len j) := fun j => by rw [← hlen]
  have HLb : Hid (∀ j, len j ≤ 1048576) := fun j => by rw [← hlen]; exact hlc j
  obtain ⟨i1, hi1, hy0, hy1, hy2⟩ := info_parts ob_rows4
  obtain ⟨i0, hi0, hz0, hz1, hz2⟩ := info_parts ob_u84
  clear hLo hNm hm hlen hlc
  go_enter Tryd.func32, Tryd.ntmps32
  go_wp2
  go_loopw [3] (fun v wr => ∃ (j : Nat) (Cs : Nat → List Int), v = .int .i64 j ∧ j ≤ m ∧ Lb4 T own wr os Cs 0 ∧ (∀ q, (Cs q).length = len q) ∧ (∀ q, q < j → Cs q = mk4 q (len q)) ∧ Kt4 T own w wr) (fun v _ => m - (intOf v).toNat)
  case atStart => exact ⟨0, C0, rfl, by omega, HLo0.out, HLen.out, fun q hq => by omega, Kt4.refl _ _ _⟩
  case round =>
    clear HLo0
    obtain ⟨j, Cs, rfl, hj, hLo, hCl, hCm, hK⟩ := hrel
    have HLo : Hid (Lb4 T own wr os Cs 0) := hLo
    have HCl : Hid (∀ q, (Cs q).length = len q) := hCl
    have HCm : Hid (∀ q, q < j → Cs q = mk4 q (len q)) := hCm
    have HK : Hid (Kt4 T own w wr) := hK
    clear hLo hCl hCm hK
    by_cases hjm : j = m
    · subst hjm
      have hz : ¬ (j : Int) < (j : Int) := by omega
      have HL1 : Hid (Lb4 T own wr os (fun q => mk4 q (len q)) 0) := by
        refine ⟨fun q v hq hv => ?_, HLo.out.tk⟩
        have := HLo.out.kr q v hq hv
        rw [HCm.out q (by have := (List.getElem?_eq_some_iff.mp hv).1; have := HM.out; omega)] at this
        exact this
      clear HLo HCl HCm
      go_wp2
      go_loopw [5, 6] (fun v5 v6 wr => ∃ (i : Nat) (VL : List Value) (own4 : Nat → Nat), v6 = .int .i64 i ∧ i ≤ j ∧ VL.length = 2 * i ∧ Lb4 T own4 wr os (fun q => mk4 q (len q)) i ∧ Gb4 T own4 wr v5 VL len ∧ Kt4 T own w wr ∧ (∀ g, g < w.heap.size → own4 g = own g)) (fun _ v _ => j - (intOf v).toNat)
      case atStart => exact ⟨0, [], own, rfl, by omega, rfl, HL1.out, ⟨World.ownsRow_nil _ _ _ _, fun g hg => by simp [Value.ownBlock] at hg, fun q v hv => by simp at hv, fun q v g hv => by simp at hv⟩, HK.out, fun _ _ => rfl⟩
      case round =>
        clear HL1 HK
        obtain ⟨i, VL, own4, rfl, hi, hVl, hLo, hGa, hK, ho4⟩ := hrel
        have HVl : Hid (VL.length = 2 * i) := hVl
        obtain ⟨aL, cL, hu5⟩ := own_shape hGa.vl
        obtain ⟨nL, hnL⟩ : ∃ n, 2 * i = n := ⟨_, rfl⟩
        rw [hVl, hnL] at hu5
        have HnL : Hid (2 * i = nL) := hnL
        have hnL2 : nL ≤ 2199023255552 := by omega
        subst hu5
        have HLo : Hid (Lb4 T own4 wr os (fun q => mk4 q (len q)) i) := hLo
        have HGa : Hid (Gb4 T own4 wr (.slice aL nL cL) VL len) := hGa
        have HK : Hid (Kt4 T own w wr) := hK
        have HO4 : Hid (∀ g, g < w.heap.size → own4 g = own g) := ho4
        clear hVl hLo hGa hK ho4 hnL
        by_cases hij : i = j
        · subst hij
          have hzz : ¬ (i : Int) < (i : Int) := by omega
          clear HLo
          obtain ⟨Z, hZ⟩ : ∃ Z, wr = Z := ⟨_, rfl⟩
          rw [hZ] at HGa HK ⊢
          clear hZ
          go_wp2
          go_loopw [9] (fun v9 wr => Lp4 Z nL v9 wr) (fun v _ => nL - (intOf v).toNat)
          case atStart => exact lp4 (p := 0) rfl (by omega)
          case round =>
            obtain ⟨p, rfl, hp, hwr⟩ := hrel
            rw [hwr]
            clear hwr
            by_cases hpm : p = nL
            · subst hpm
              have hz8 : ¬ (p : Int) < (p : Int) := by omega
              go_wp2
              go_ret
              exact ⟨rfl, HK.out⟩
            · have hz8 : (p : Int) < (nL : Int) := by omega
              have hwp : IntKind.i64.wrap ((p : Int) + 1) = (p : Int) + 1 := by rw [IntKind.wrap_i64]; omega
              obtain ⟨u, hu⟩ : ∃ v, VL[p]? = some v := ⟨_, List.getElem?_eq_getElem (by rw [HVl.out, HnL.out]; omega)⟩
              have hkr := HGa.out.kr p u hu
              obtain ⟨gL, cL', eL⟩ := own_some HGa.out.vl (by rw [HVl.out, HnL.out]; omega)
              obtain ⟨rfl, hmm, rfl⟩ : aL = some ⟨gL, 0, none⟩ ∧ nL = VL.length ∧ cL = cL' := by simpa using eL
              have e8 : Z.cell? ⟨gL, p, none⟩ = some u := by
                have h7 := HGa.out.vl
                rw [HVl.out, HnL.out] at h7
                exact (World.ownsRow.cellAt h7 p (by omega)).trans hu
              obtain ⟨a8, c8, rfl⟩ := hkr.shape
              obtain ⟨n, hnn⟩ : ∃ n, (mk4 (p / 2) (len (p / 2) + 40 * (1 - p % 2))).length = n := ⟨_, rfl⟩
              have hnb : n ≤ 1048616 := by rw [← hnn, mk4_len]; have := HLb.out (p / 2); omega
              rw [hnn] at e8 hkr
              have HKr : Hid (BO4 Z 0 (.slice a8 n c8) (mk4 (p / 2) (len (p / 2) + 40 * (1 - p % 2)))) := hkr
              have HNn : Hid (len (p / 2) + 40 * (1 - p % 2) = n) := by show _ = _; rw [← hnn, mk4_len]
              obtain ⟨m0, hm0⟩ : ∃ m0, p / 2 % 250 = m0 := ⟨_, rfl⟩
              have hm0l : m0 < 250 := by omega
              obtain ⟨p2, hp2⟩ : ∃ p2, p / 2 = p2 := ⟨_, rfl⟩
              have hp2l : p2 ≤ 2199023255552 := by omega
              have hdv : (p : Int).tdiv 2 = (p2 : Int) := by rw [← hp2]; rfl
              have hdv2 : (p2 : Int).tmod 250 = (m0 : Int) := by rw [← hm0, ← hp2]; rfl
              have HM0 : Hid (m4 (p / 2) = 1 + (m0 : Int)) := by show m4 _ = _; unfold m4; rw [hm0]
              clear hu hkr eL hmm hnn hm0 hp2
              go_wp2
              go_loopw [10] (fun v10 wr' => Lp4 Z n v10 wr') (fun v _ => n - (intOf v).toNat)
              case atStart => exact lp4 (p := 0) rfl (by omega)
              case round =>
                obtain ⟨q, rfl, hq, hwr⟩ := hrel
                rw [hwr]
                clear hwr
                by_cases hqn : q = n
                · subst hqn
                  have hz9 : ¬ (q : Int) < (q : Int) := by omega
                  go_wp2
                  exact ⟨lp4 (p := p + 1) (by simp) (by omega), by simp [intOf]; omega⟩
                · have hz9 : (q : Int) < (n : Int) := by omega
                  have hwq : IntKind.i64.wrap ((q : Int) + 1) = (q : Int) + 1 := by rw [IntKind.wrap_i64]; omega
                  obtain ⟨g9, c9, e9⟩ := HKr.out.some' (by rw [mk4_len, HNn.out]; omega)
                  obtain ⟨rfl, hmm, rfl⟩ : a8 = some ⟨g9, 0, none⟩ ∧ n = (mk4 (p / 2) (len (p / 2) + 40 * (1 - p % 2))).length ∧ c8 = c9 := by simpa using e9
                  obtain ⟨t0, _⟩ := HKr.out.cell (k := q) (x := m4 (p / 2)) (mk4_at (by rw [HNn.out]; omega))
                  rw [HM0.out] at t0
                  have hx1 : IntKind.i64.wrap (1 + (m0 : Int)) = 1 + (m0 : Int) := by rw [IntKind.wrap_i64]; omega
                  have hx2 : IntKind.u8.wrap (1 + (m0 : Int)) = 1 + (m0 : Int) := u8_wrap (by omega) (by omega)
                  have e0 : ((1 + (m0 : Int)) != (1 + (m0 : Int))) = false := by simp
                  clear e9 hmm
                  go_wp2
                  exact ⟨lp4 (p := q + 1) (by simp) (by omega), by simp [intOf]; omega⟩
        · have hzz : (i : Int) < (j : Int) := by omega
          have hwi : IntKind.i64.wrap ((i : Int) + 1) = (i : Int) + 1 := by rw [IntKind.wrap_i64]; omega
          obtain ⟨vi, hvi⟩ : ∃ v, os[i]? = some v := ⟨_, List.getElem?_eq_getElem (by rw [HM.out]; omega)⟩
          have hkr := HLo.out.kr i vi (Nat.le_refl _) hvi
          have htk := fun g => HLo.out.tk i vi g (Nat.le_refl _) hvi
          obtain ⟨ai, ci, rfl⟩ := hkr.shape
          obtain ⟨gl, off, rfl, e6⟩ := HNm.out.at HK.out hvi
          obtain ⟨ni, hni⟩ : ∃ n, len i = n := ⟨_, rfl⟩
          have hnb : ni ≤ 1048576 := by rw [← hni]; exact HLb.out i
          rw [mk4_len, hni] at hkr htk e6 hvi
          have HNi : Hid (len i = ni) := hni
          have HVi : Hid (os[i]? = some (.slice ai ni ci)) := hvi
          have HKr : Hid (BO4 wr 0 (.slice ai ni ci) (mk4 i ni)) := hkr
          have HTi : Hid (∀ g, (Value.slice ai ni ci).ownBlock = some g → own4 g = T i) := htk
          have HLn : Hid (Lb4 T own4 wr os (fun q => mk4 q (len q)) (i + 1)) := HLo.out.next
          clear HLo hkr htk hvi hni
          go_wp2
          clear e6
          go_loopw [7, 8] (fun v7 v8 wr => ∃ (k : Nat) (own5 : Nat → Nat), v8 = .int .i64 k ∧ k ≤ 40 ∧ Lb4 T own5 wr os (fun q => mk4 q (len q)) (i + 1) ∧ Gb4 T own5 wr (.slice aL nL cL) VL len ∧ (BO4 wr 0 (.slice ai ni ci) (mk4 i ni) ∧ ∀ g, (Value.slice ai ni ci).ownBlock = some g → own5 g = T i) ∧ BO4 wr 0 v7 (mk4 i (ni + k)) ∧ (∀ g, v7.ownBlock = some g → own5 g = T i) ∧ Kt4 T own w wr ∧ (∀ g, g < w.heap.size → own5 g = own g)) (fun _ v _ => 40 - (intOf v).toNat)
          case atStart => exact ⟨0, own4, rfl, by omega, HLn.out, HGa.out, ⟨HKr.out, HTi.out⟩, HKr.out, HTi.out, HK.out, HO4.out⟩
          case round =>
            clear HLn HKr HTi HGa HK HO4
            obtain ⟨k, own5, rfl, hk, hLo, hGa, hI, hS7, hT7, hK, ho5⟩ := hrel
            obtain ⟨a7, c7, hu7⟩ := hS7.shape
            obtain ⟨n7, hn7⟩ : ∃ n, ni + k = n := ⟨_, rfl⟩
            rw [mk4_len, hn7] at hu7
            subst hu7
            have HN7 : Hid (ni + k = n7 ∧ n7 ≤ 1048616 ∧ (mk4 i (ni + k)).length = n7) := ⟨hn7, by omega, by rw [mk4_len]; exact hn7⟩
            have HLo : Hid (Lb4 T own5 wr os (fun q => mk4 q (len q)) (i + 1)) := hLo
            have HGa : Hid (Gb4 T own5 wr (.slice aL nL cL) VL len) := hGa
            have HI : Hid (BO4 wr 0 (.slice ai ni ci) (mk4 i ni) ∧ ∀ g, (Value.slice ai ni ci).ownBlock = some g → own5 g = T i) := hI
            have HS7 : Hid (BO4 wr 0 (.slice a7 n7 c7) (mk4 i (ni + k))) := hS7
            have HT7 : Hid (∀ g, (Value.slice a7 n7 c7).ownBlock = some g → own5 g = T i) := hT7
            have HK : Hid (Kt4 T own w wr) := hK
            have HO5 : Hid (∀ g, g < w.heap.size → own5 g = own g) := ho5
            clear hLo hGa hI hS7 hT7 hK ho5 hn7
            by_cases hk4 : k = 40
            · subst hk4
              obtain ⟨gl', off', he, e6⟩ := HNm.out.at HK.out HVi.out
              cases he
              go_wp2_with (first
                | (at_builtin; refine wpList_append_own_at _ rfl _ _ 29 rfl 0 36 i1 (.slice none 0 0) 1 24 Tryd.underlying29 hi1 hy0 hy1 hy2 rfl (by decide) (.slice aL nL cL) VL.length VL rfl (World.ownsRow.alloc HGa.out.vl _) ⟨wr.heap.size, 0, none⟩ 2 2 [.slice a7 n7 c7, .slice ai ni ci] rfl rfl (cell_two_new _ _ _ _) (by simp [Value.oneCell']) (by unfold maxLen; have := HVl.out; omega) (by have := HVl.out; omega) (by simp) ?_
                   intro v6 w6 hown6 hgrow6 hnil6 hat6; clear hnil6
                   have HG6 : Hid (wr.grownBy w6 (Value.slice aL nL cL).ownBlock) := (World.grownBy_alloc wr _ _).trans hgrow6
                   have HO6 : Hid (w6.ownsRow 0 36 1 v6 (VL.length + 2) (VL ++ [.slice a7 n7 c7, .slice ai ni ci])) := hown6
                   have HA6 : Hid (v6.ownBlock = (Value.slice aL nL cL).ownBlock ∨ ∃ g, v6.ownBlock = some g ∧ wr.heap.size ≤ g) := hat6.imp id (fun e => ⟨_, e, by simp⟩)
                   clear hown6 hgrow6 hat6)
                | go_in)
              have ho6 : ∀ g, g < wr.heap.size → (if g < wr.heap.size then own5 g else 5) = own5 g := fun g hg => if_pos hg
              have hpu := Gb4.push hT HGa.out (i := i) HVl.out HG6.out HO6.out HA6.out (by rw [HNi.out]; exact HI.out.1) HI.out.2 (by rw [HNi.out]; exact HS7.out) HT7.out
              exact ⟨⟨i + 1, _, _, by simp, by omega, by rw [List.length_append, HVl.out]; simp; omega, HLo.out.keep HG6.out ho6 (fun g hg => HGa.out.tvl g hg) (fun q hq => by have := hT.big q; omega), hpu, HK.out.grown HG6.out (fun g hg hgl => .inl (by rw [← HO5.out g hgl, HGa.out.tvl g hg])), fun g hg => (ho6 g (Nat.lt_of_lt_of_le hg HK.out.size)).trans (HO5.out g hg)⟩, by simp [intOf]; omega⟩
            · have hz4 : (k : Int) < 40 := by omega
              have hwk : IntKind.i64.wrap ((k : Int) + 1) = (k : Int) + 1 := by rw [IntKind.wrap_i64]; omega
              obtain ⟨m0, hm0⟩ : ∃ m0, i % 250 = m0 := ⟨_, rfl⟩
              have hm0l : m0 < 250 := by omega
              have hdv : (i : Int).tmod 250 = (m0 : Int) := by rw [← hm0]; rfl
              have hx1 : IntKind.i64.wrap (1 + (m0 : Int)) = 1 + (m0 : Int) := by rw [IntKind.wrap_i64]; omega
              have hx2 : IntKind.u8.wrap (1 + (m0 : Int)) = 1 + (m0 : Int) := u8_wrap (by omega) (by omega)
              have HMb : Hid (mk4 i (ni + (k + 1)) = mk4 i (ni + k) ++ [1 + (m0 : Int)]) := by show _ = _; rw [← Nat.add_assoc, mk4_succ]; unfold m4; rw [hm0]
              clear hm0
              go_wp2_with (first
                | (at_builtin; refine append_b4 _ rfl _ _ 36 rfl 5 i0 (.int .u8 0) 1 Tryd.underlying36 hi0 hz0 hz1 hz2 rfl (.slice a7 n7 c7) (mk4 i (ni + k)).length ((mk4 i (ni + k)).map (Value.int .u8)) rfl (World.ownsRow.alloc HS7.out _) ⟨wr.heap.size, 0, none⟩ 1 (.int .u8 (1 + (m0 : Int))) rfl (one_new4 _ _ _) rfl (by have := HN7.out; omega) (by unfold maxLen; have := HN7.out; omega) ?_
                   intro v6 w6 hown6 hgrow6 hat6 hps6
                   have HG6 : Hid (wr.grownBy w6 (Value.slice a7 n7 c7).ownBlock) := (World.grownBy_alloc wr _ _).trans hgrow6
                   have HO6 : Hid (BO4 w6 0 v6 (mk4 i (ni + k) ++ [1 + (m0 : Int)])) := (by show BO4 _ _ _ _; unfold BO4; rw [List.length_append, List.map_append]; exact hown6)
                   have HA6 : Hid (v6.ownBlock = (Value.slice a7 n7 c7).ownBlock ∨ ∃ g, v6.ownBlock = some g ∧ wr.heap.size ≤ g) := hat6.imp id (fun ⟨g, e, e2⟩ => ⟨g, e, Nat.le_trans (by simp) e2⟩)
                   have HI6 : Hid (BO4 w6 0 (.slice ai ni ci) (mk4 i ni)) := (hps6 _ _ _ (World.ownsRow.alloc HI.out.1 _) (fun g _ _ => ⟨by rw [← List.map_take, mk4_len, mk4_take], by rw [mk4_len, mk4_len]; omega⟩))
                   clear hown6 hgrow6 hat6 hps6)
                | go_in)
              have ho6 : ∀ g, g < wr.heap.size → (if g < wr.heap.size then own5 g else T i) = own5 g := fun g hg => if_pos hg
              refine ⟨⟨k + 1, fun g => if g < wr.heap.size then own5 g else T i, by simp, by omega, HLo.out.keep HG6.out ho6 (fun g hg => HT7.out g hg) (fun q hq e => by have := hT.inj _ _ e; omega), HGa.out.keep HG6.out ho6 (fun g hg => HT7.out g hg) (by have := hT.big i; omega) (fun q hq e => by have := HVl.out; have := hT.inj _ _ e; omega), ⟨HI6.out, fun g hg => (ho6 g (HI.out.1.lt g hg).2).trans (HI.out.2 g hg)⟩, ?_, fun g hg => ?_, HK.out.grown HG6.out (fun g hg hgl => .inr ⟨i, by rw [← HO5.out g hgl, HT7.out g hg]⟩), fun g hg => (ho6 g (Nat.lt_of_lt_of_le hg HK.out.size)).trans (HO5.out g hg)⟩, by simp [intOf]; omega⟩
              · rw [HMb.out]; exact HO6.out
              · show (if g < wr.heap.size then own5 g else T i) = T i
                rcases HA6.out with q | ⟨g', q, q2⟩
                · rw [if_pos (HS7.out.lt g (q ▸ hg)).2]; exact HT7.out g (q ▸ hg)
                · have e2 : g' = g := Option.some.inj (q.symm.trans hg)
                  rw [if_neg (by omega)]
    · have hz : (j : Int) < (m : Int) := by omega
      have hwj : IntKind.i64.wrap ((j : Int) + 1) = (j : Int) + 1 := by rw [IntKind.wrap_i64]; omega
      obtain ⟨vj, hvj⟩ : ∃ v, os[j]? = some v := ⟨_, List.getElem?_eq_getElem (by rw [HM.out]; omega)⟩
      obtain ⟨aj, cj, rfl⟩ := (HLo.out.kr j vj (Nat.zero_le _) hvj).shape
      obtain ⟨nj, hnj⟩ : ∃ n, len j = n := ⟨_, rfl⟩
      have HNj : Hid (len j = nj) := hnj
      have hnb : nj ≤ 1048576 := by rw [← hnj]; exact HLb.out j
      rw [HCl.out j, hnj] at hvj
      have HVj : Hid (os[j]? = some (.slice aj nj cj)) := hvj
      clear hvj hnj
      go_wp2
      go_loopw [4] (fun v4 wr => ∃ (k : Nat) (Cs : Nat → List Int), v4 = .int .i64 k ∧ k ≤ nj ∧ Lb4 T own wr os Cs 0 ∧ (∀ q, (Cs q).length = len q) ∧ (∀ q, q < j → Cs q = mk4 q (len q)) ∧ (∀ q : Nat, q < k → (Cs j)[q]? = some (m4 j)) ∧ Kt4 T own w wr) (fun v _ => nj - (intOf v).toNat)
      case atStart => exact ⟨0, Cs, rfl, by omega, HLo.out, HCl.out, HCm.out, fun q hq => by omega, HK.out⟩
      case round =>
        clear HLo HCl HCm HK
        obtain ⟨k, Cs2, rfl, hk, hLo, hCl, hCm, hCk, hK⟩ := hrel
        have HLo : Hid (Lb4 T own wr os Cs2 0) := hLo
        have HCl : Hid (∀ q, (Cs2 q).length = len q) := hCl
        have HCm : Hid (∀ q, q < j → Cs2 q = mk4 q (len q)) := hCm
        have HCk : Hid (∀ q : Nat, q < k → (Cs2 j)[q]? = some (m4 j)) := hCk
        have HK : Hid (Kt4 T own w wr) := hK
        obtain ⟨gl, off, rfl, e6⟩ := HNm.out.at hK HVj.out
        have HGl : Hid ((∀ q, own gl ≠ T q) ∧ own gl ≠ 5) := by
          rcases HNm.out with h | ⟨gl', off', he, h0, _⟩
          · have := HVj.out; rw [h] at this; simp at this
          · cases he; exact h0
        clear hLo hCl hCm hCk hK
        by_cases hkn : k = nj
        · subst hkn
          have hz2 : ¬ (k : Int) < (k : Int) := by omega
          go_wp2
          refine ⟨⟨j + 1, Cs2, by simp, by omega, HLo.out, HCl.out, fun q hq => ?_, HK.out⟩, by simp [intOf]; omega⟩
          by_cases e : q = j
          · subst e
            rw [HNj.out]
            exact all_mk4 (by rw [HCl.out q, HNj.out]) HCk.out
          · exact HCm.out q (by omega)
        · have hz2' : (k : Int) < (nj : Int) := by omega
          have hwk : IntKind.i64.wrap ((k : Int) + 1) = (k : Int) + 1 := by rw [IntKind.wrap_i64]; omega
          have hkr := HLo.out.kr j _ (Nat.zero_le _) HVj.out
          obtain ⟨gj, capj, ej⟩ := hkr.some' (by rw [HCl.out j, HNj.out]; omega)
          obtain ⟨rfl, hmm, rfl⟩ : aj = some ⟨gj, 0, none⟩ ∧ nj = (Cs2 j).length ∧ cj = capj := by simpa using ej
          obtain ⟨y1, hy⟩ : ∃ y, (Cs2 j)[k]? = some y := ⟨_, List.getElem?_eq_getElem (by omega)⟩
          obtain ⟨t0, f0⟩ := hkr.cell hy
          have hgt : own gj = T j := HLo.out.tk j _ gj (Nat.zero_le _) HVj.out rfl
          have HNe : Hid (gl ≠ gj) := fun e => HGl.out.1 j (e ▸ hgt)
          obtain ⟨m0, hm0⟩ : ∃ m0, j % 250 = m0 := ⟨_, rfl⟩
          have hm0l : m0 < 250 := by omega
          have hdv : (j : Int).tmod 250 = (m0 : Int) := by rw [← hm0]; rfl
          have hx1 : IntKind.i64.wrap (1 + (m0 : Int)) = 1 + (m0 : Int) := by rw [IntKind.wrap_i64]; omega
          have hx2 : IntKind.u8.wrap (1 + (m0 : Int)) = 1 + (m0 : Int) := u8_wrap (by omega) (by omega)
          have HMb : Hid (m4 j = 1 + (m0 : Int)) := by show m4 _ = _; unfold m4; rw [hm0]
          have HNew : Hid (Lb4 T own (wr.setCell ⟨gj, k, none⟩ (.int .u8 (1 + (m0 : Int)))) os (fun q => if q = j then (Cs2 j).set k (1 + (m0 : Int)) else Cs2 q) 0) := Lb4.store hT HLo.out (k := k) HVj.out (1 + (m0 : Int))
          have HK2 : Hid (Kt4 T own w (wr.setCell ⟨gj, k, none⟩ (.int .u8 (1 + (m0 : Int))))) := HK.out.grown (row := some gj) (grown_set _ _ _ _) (fun g hg _ => by cases hg; exact .inr ⟨j, hgt⟩)
          clear hkr ej hmm hy hgt hm0
          go_wp2
          refine ⟨⟨k + 1, _, by simp, by omega, HNew.out, fun q => ?_, fun q hq => ?_, fun q hq => ?_, HK2.out⟩, by simp [intOf]; omega⟩
          · by_cases e : q = j
            · subst e; rw [if_pos rfl, List.length_set]; exact HCl.out q
            · rw [if_neg e]; exact HCl.out q
          · rw [if_neg (by omega)]; exact HCm.out q hq
          · rw [if_pos rfl, List.getElem?_set]
            by_cases e : k = q
            · rw [if_pos e, if_pos (by rw [HCl.out j, HNj.out]; omega), HMb.out]
            · rw [if_neg e]; exact HCk.out q (by omega)

end Go.Proofs.YthkphihgdklbbaaDoor.C

namespace Go.Proofs.YthkphihgdklbbaaDoor.C
open Go.RowKit Go.Shelf
set_option linter.unusedVariables false
set_option linter.unusedSimpArgs false

theorem Spa.drewN {w : World} {a : Option Addr} {l : List Sp} (h : Spa w a l) (n : Nat) : Spa (w.drewN n) a l := h
def Lp5 (Z : World) (N : Nat) (v : Value) (w : World) : Prop := ∃ p nd : Nat, v = .int .i64 p ∧ p ≤ N ∧ w = Z.drewN nd
theorem lp5 {Z : World} {N p nd : Nat} {v : Value} (hv : v = .int .i64 p) (h : p ≤ N) : Lp5 Z N v (Z.drewN nd) := ⟨p, nd, hv, h, rfl⟩

set_option maxHeartbeats 4000000 in
set_option maxRecDepth 100000 in
/-- SAME SPANS of layer 4, of two lists that say the same. -/
theorem sameSpans4_eq (a b : Option Addr) (c d n : Nat) (l : List Sp) (w : World) (hn : l.length = n) (hm : n ≤ 4611686018427387903) (h : Spa w a l) (h' : Spa w b l) :
    Calls Tryd.prog 27 #[.slice a n c, .slice b n d] w fun e w' => e = .returned (.bool true) ∧ ∃ nd, w' = w.drewN nd := by
  have HN : Hid (l.length = n) := hn
  have HS : Hid (Spa w a l) := h
  have HS' : Hid (Spa w b l) := h'
  clear hn h h'
  go_enter Tryd.func27, Tryd.ntmps27
  obtain ⟨Z, hZ⟩ : ∃ Z, w = Z := ⟨_, rfl⟩
  rw [hZ] at HS HS' ⊢
  clear hZ
  go_wp2_with fail
  go_loopw [5] (fun v wr => Lp5 Z n v wr) (fun v _ => n - (intOf v).toNat)
  case atStart => exact lp5 (nd := 0) (p := 0) rfl (by omega)
  case round =>
    obtain ⟨k, nd, rfl, hk, hwr⟩ := hrel
    have HW : Hid (wr = Z.drewN nd) := hwr
    have HA : Hid (Spa wr a l) := by show Spa _ _ _; rw [hwr]; exact HS.out.drewN _
    have HA' : Hid (Spa wr b l) := by show Spa _ _ _; rw [hwr]; exact HS'.out.drewN _
    clear hwr
    by_cases hlt : k = n
    · subst hlt
      have hz : ¬ (k : Int) < (k : Int) := by omega
      go_wp2
      go_ret
      exact ⟨rfl, _, HW.out⟩
    · have hlt' : (k : Int) < (n : Int) := by omega
      have hwk : IntKind.i64.wrap ((k : Int) + 1) = (k : Int) + 1 := by rw [IntKind.wrap_i64]; omega
      obtain ⟨⟨p1, p2⟩, hp⟩ : ∃ p, l[k]? = some p := ⟨_, List.getElem?_eq_getElem (by rw [HN.out]; omega)⟩
      obtain ⟨g, off, rfl, q1, q2⟩ := HA.out.at hp
      obtain ⟨g', off', rfl, r1, r2⟩ := HA'.out.at hp
      simp only at q1 q2 r1 r2
      clear hp
      go_wp2_with fail
      go_quiet (fail)
      go_wp2
      exact ⟨by rw [HW.out, World.drewN_drewN]; exact lp5 (p := k + 1) (by simp) (by omega), by simp [intOf]; omega⟩

end Go.Proofs.YthkphihgdklbbaaDoor.C

namespace Go.Proofs.YthkphihgdklbbaaDoor.C
open Go.RowKit Go.Shelf
set_option linter.unusedVariables false
set_option linter.unusedSimpArgs false

/-! ## The law's world of buffers: whose each block is: 1 the world's own, 2 rows', 3 wishes', 4 sets', 6 was', 7 the document's sets, 10 11 the program's buffers, 12 13 the document's, 20 on what came out -/
def tgB (k : Bool) : Nat := if k = true then 11 else 10
def tgQ (k : Bool) : Nat := if k = true then 13 else 12
theorem tgB_or (k : Bool) : tgB k = 10 ∨ tgB k = 11 := by unfold tgB; split <;> simp
theorem tgQ_or (k : Bool) : tgQ k = 12 ∨ tgQ k = 13 := by unfold tgQ; split <;> simp
theorem tgB_ne {j k : Bool} (h : j ≠ k) : tgB j ≠ tgB k := by cases j <;> cases k <;> simp_all [tgB]
theorem tgQ_ne {j k : Bool} (h : j ≠ k) : tgQ j ≠ tgQ k := by cases j <;> cases k <;> simp_all [tgQ]
/-- Nothing but blocks with those tags has changed. -/
structure Kg (D : Nat → Prop) (own : Nat → Nat) (w w' : World) : Prop where
  size : w.heap.size ≤ w'.heap.size
  same : ∀ k, k < w.heap.size → ¬ D (own k) → w'.heap[k]? = w.heap[k]?
theorem Kg.below {D : Nat → Prop} {own : Nat → Nat} {w w' : World} (h : Below w.heap.size w w') : Kg D own w w' := ⟨h.size, fun k hk _ => h.block k hk⟩
theorem Kg.grown {own : Nat → Nat} {w w' : World} {row : Option Nat} {t : Nat} (h : w.grownBy w' row) (ht : ∀ g, row = some g → own g = t) : Kg (fun x => x = t) own w w' := ⟨h.size, fun k hk hn => h.block k hk (fun e => hn (ht k e.symm))⟩
theorem Kg.kf {own : Nat → Nat} {w w' : World} {t : Nat} (h : Kf (fun g => own g = t) w w') : Kg (fun x => x = t) own w w' := ⟨h.size, h.same⟩
theorem Kg.cell {own : Nat → Nat} {w : World} {g i : Nat} {x : Value} {t : Nat} (ht : own g = t) : Kg (fun x => x = t) own w (w.setCell ⟨g, i, none⟩ x) := Kg.grown (grown_set w g i x) (fun g' e => by cases e; exact ht)
/-- Fresh blocks get one tag. -/
def tg (own : Nat → Nat) (w : World) (t : Nat) : Nat → Nat := fun g => if g < w.heap.size then own g else t
theorem tg_old {own : Nat → Nat} {w : World} {t g : Nat} (h : g < w.heap.size) : tg own w t g = own g := if_pos h
theorem tg_new {own : Nat → Nat} {w : World} {t g : Nat} (h : w.heap.size ≤ g) : tg own w t g = t := if_neg (by omega)

/-- The lists of what came out. -/
structure Wl (own : Nat → Nat) (w : World) (vr vw vs vx : Value) (rs ws ss xs : List Value) (C : Nat → List Int) (S : Nat → List Sp) : Prop where
  r1 : w.ownsRow 0 36 1 vr rs.length rs
  r2 : ∀ g, vr.ownBlock = some g → own g = 2
  w1 : w.ownsRow 0 9 1 vw ws.length ws
  w2 : ∀ g, vw.ownBlock = some g → own g = 3
  s1 : w.ownsRow 0 59 1 vs ss.length ss
  s2 : ∀ g, vs.ownBlock = some g → own g = 4
  x1 : w.ownsRow 0 59 1 vx xs.length xs
  x2 : ∀ g, vx.ownBlock = some g → own g = 6
  r3 : ∀ (j : Nat) v, rs[j]? = some v → BO4 w 0 v (C j)
  r4 : ∀ (j : Nat) v g, rs[j]? = some v → v.ownBlock = some g → own g = 20 + 2 * j
  w3 : ∀ (j : Nat) v, ws[j]? = some v → v = .string (strOfNums (C j))
  s3 : ∀ (j : Nat) v, ss[j]? = some v → SOwn w 0 v (S j)
  s4 : ∀ (j : Nat) v g, ss[j]? = some v → v.ownBlock = some g → own g = 21 + 2 * j
  x3 : ∀ (j : Nat) v, xs[j]? = some v → SOwn w 0 v (S j)
  x4 : ∀ (j : Nat) v g, xs[j]? = some v → v.ownBlock = some g → own g = 7
/-- The four buffers. -/
structure Wb (own : Nat → Nat) (w : World) (B R : Bool → Nat) (b : Bool → Bf) (P : Bool → List Int) : Prop where
  bu : ∀ k, Bu w (B k) (fun g => own g = tgB k) (b k)
  rf : ∀ k, Rf w (R k) (fun g => own g = tgQ k) (P k) (b k).dr
  rel : ∀ k, RelB (b k) (P k)
def bxW (B R : Bool → Nat) (vr vw vs vx : Value) : Array Value := #[.pointer (some ⟨B false, 0, none⟩), .pointer (some ⟨B true, 0, none⟩), .pointer (some ⟨R false, 0, none⟩), .pointer (some ⟨R true, 0, none⟩), vr, vw, vs, vx]
structure Wx (own : Nat → Nat) (w : World) (q : Nat) (B R : Bool → Nat) (vr vw vs vx : Value) : Prop where
  box : w.heap[q]? = some (.cells (bxW B R vr vw vs vx) 33 (0, 0))
  tag : own q = 1

section
variable {D : Nat → Prop} {own own' : Nat → Nat} {w w' : World} {q : Nat} {B R : Bool → Nat} {b : Bool → Bf} {P : Bool → List Int} {vr vw vs vx : Value} {rs ws ss xs : List Value} {C : Nat → List Int} {S : Nat → List Sp}

theorem row_keep {sz n t : Nat} {e : TypeId} {v : Value} {l : List Value} (h : w.ownsRow 0 e sz v n l) (ht : ∀ g, v.ownBlock = some g → own g = t) (hk : Kg D own w w') (hD : ¬ D t) : w'.ownsRow 0 e sz v n l :=
  own_same0 h (fun k e => hk.same k (World.ownsRow.lt h k e).2 (by rw [ht k e]; exact hD))
theorem tag_keep {sz n t : Nat} {e : TypeId} {v : Value} {l : List Value} (h : w.ownsRow 0 e sz v n l) (ht : ∀ g, v.ownBlock = some g → own g = t) (ho : ∀ g, g < w.heap.size → own' g = own g) : ∀ g, v.ownBlock = some g → own' g = t :=
  fun g e => (ho g (World.ownsRow.lt h g e).2).trans (ht g e)
theorem Wx.lt (h : Wx own w q B R vr vw vs vx) : q < w.heap.size := (Array.getElem?_eq_some_iff.1 h.box).1
theorem Wx.keep (h : Wx own w q B R vr vw vs vx) (hk : Kg D own w w') (ho : ∀ g, g < w.heap.size → own' g = own g) (hD : ¬ D 1) : Wx own' w' q B R vr vw vs vx :=
  ⟨(hk.same q h.lt (by rw [h.tag]; exact hD)).trans h.box, (ho q h.lt).trans h.tag⟩
theorem Wl.keep (h : Wl own w vr vw vs vx rs ws ss xs C S) (hk : Kg D own w w') (ho : ∀ g, g < w.heap.size → own' g = own g) (hD : ∀ t, D t → t ≤ 1 ∨ (10 ≤ t ∧ t < 20)) : Wl own' w' vr vw vs vx rs ws ss xs C S := by
  have hn : ∀ t, ¬ (t ≤ 1 ∨ (10 ≤ t ∧ t < 20)) → ¬ D t := fun t ht e => ht (hD t e)
  exact ⟨row_keep h.r1 h.r2 hk (hn 2 (by omega)), tag_keep h.r1 h.r2 ho, row_keep h.w1 h.w2 hk (hn 3 (by omega)), tag_keep h.w1 h.w2 ho, row_keep h.s1 h.s2 hk (hn 4 (by omega)), tag_keep h.s1 h.s2 ho, row_keep h.x1 h.x2 hk (hn 6 (by omega)), tag_keep h.x1 h.x2 ho,
    fun j v hv => row_keep (h.r3 j v hv) (h.r4 j v · hv) hk (hn _ (by omega)), fun j v g hv => tag_keep (h.r3 j v hv) (h.r4 j v · hv) ho g, h.w3,
    fun j v hv => row_keep (h.s3 j v hv) (h.s4 j v · hv) hk (hn _ (by omega)), fun j v g hv => tag_keep (h.s3 j v hv) (h.s4 j v · hv) ho g,
    fun j v hv => row_keep (h.x3 j v hv) (h.x4 j v · hv) hk (hn _ (by omega)), fun j v g hv => tag_keep (h.x3 j v hv) (h.x4 j v · hv) ho g⟩
theorem Bu.keepT {t : Nat} {Bb : Nat} {c : Bf} (h : Bu w Bb (fun g => own g = t) c) (hk : Kg D own w w') (ho : ∀ g, g < w.heap.size → own' g = own g) (hD : ¬ D t) : Bu w' Bb (fun g => own' g = t) c :=
  (h.cut.same (fun k e hl => hk.same k hl (by rw [e.1]; exact hD))).mono (fun k e => (ho k e.2).trans e.1)
theorem Rf.keepT {t : Nat} {Br : Nat} {c : List Int} {dr : Bool} (h : Rf w Br (fun g => own g = t) c dr) (hk : Kg D own w w') (ho : ∀ g, g < w.heap.size → own' g = own g) (hD : ¬ D t) : Rf w' Br (fun g => own' g = t) c dr :=
  (h.cut.same (fun k e hl => hk.same k hl (by rw [e.1]; exact hD))).mono (fun k e => (ho k e.2).trans e.1)
theorem Wb.keep (h : Wb own w B R b P) (hk : Kg D own w w') (ho : ∀ g, g < w.heap.size → own' g = own g) (hD : ∀ t, D t → t < 10 ∨ 13 < t) : Wb own' w' B R b P := by
  have hn : ∀ t, ¬ (t < 10 ∨ 13 < t) → ¬ D t := fun t ht e => ht (hD t e)
  exact ⟨fun k => (h.bu k).keepT hk ho (hn _ (by have := tgB_or k; omega)), fun k => (h.rf k).keepT hk ho (hn _ (by have := tgQ_or k; omega)), h.rel⟩
end

/-! ## All of it -/
structure Wo4 (own : Nat → Nat) (w : World) (q : Nat) (B R : Bool → Nat) (b : Bool → Bf) (P : Bool → List Int) (vr vw vs vx : Value) (rs ws ss xs : List Value) (C : Nat → List Int) (S : Nat → List Sp) : Prop where
  x : Wx own w q B R vr vw vs vx
  b : Wb own w B R b P
  l : Wl own w vr vw vs vx rs ws ss xs C S
section
variable {D : Nat → Prop} {own own' : Nat → Nat} {w w' : World} {q : Nat} {B R : Bool → Nat} {b : Bool → Bf} {P : Bool → List Int} {vr vw vs vx : Value} {rs ws ss xs : List Value} {C : Nat → List Int} {S : Nat → List Sp}
/-- Nothing of it was touched; what is new gets a tag. -/
theorem Wo4.fresh (h : Wo4 own w q B R b P vr vw vs vx rs ws ss xs C S) (hb : Below w.heap.size w w') (t : Nat) : Wo4 (tg own w t) w' q B R b P vr vw vs vx rs ws ss xs C S :=
  ⟨h.x.keep (D := fun _ => False) (.below hb) (fun _ => tg_old) id, h.b.keep (D := fun _ => False) (.below hb) (fun _ => tg_old) (fun _ e => e.elim), h.l.keep (D := fun _ => False) (.below hb) (fun _ => tg_old) (fun _ e => e.elim)⟩
/-- The program's Put or Drop, on one of the two. -/
theorem Wb.prog (h : Wb own w B R b P) (k : Bool) {c : Bf} (hf : Kf (fun g => own g = tgB k) w w') (hB : Bu w' (B k) (fun g => own g = tgB k ∧ g < w.heap.size ∨ w.heap.size ≤ g) c) (hdr : ∀ j, j ≠ k → True) :
    (∀ j, j ≠ k → Bu w' (B j) (fun g => tg own w (tgB k) g = tgB j) (b j)) ∧ Bu w' (B k) (fun g => tg own w (tgB k) g = tgB k) c ∧ ∀ j, Rf w' (R j) (fun g => tg own w (tgB k) g = tgQ j) (P j) (b j).dr := by
  have hk := Kg.kf hf
  refine ⟨fun j hj => (h.bu j).keepT hk (fun _ => tg_old) (tgB_ne hj), hB.mono (fun g e => ?_), fun j => (h.rf j).keepT hk (fun _ => tg_old) (by have := tgB_or k; have := tgQ_or j; omega)⟩
  rcases e with ⟨e, hl⟩ | e
  · exact (tg_old hl).trans e
  · exact tg_new e
theorem Wb.refc (h : Wb own w B R b P) (k : Bool) {c : List Int} {dr : Bool} (hf : Kf (fun g => own g = tgQ k) w w') (hR : Rf w' (R k) (fun g => own g = tgQ k ∧ g < w.heap.size ∨ w.heap.size ≤ g) c dr) :
    (∀ j, j ≠ k → Rf w' (R j) (fun g => tg own w (tgQ k) g = tgQ j) (P j) (b j).dr) ∧ Rf w' (R k) (fun g => tg own w (tgQ k) g = tgQ k) c dr ∧ ∀ j, Bu w' (B j) (fun g => tg own w (tgQ k) g = tgB j) (b j) := by
  have hk := Kg.kf hf
  refine ⟨fun j hj => (h.rf j).keepT hk (fun _ => tg_old) (tgQ_ne hj), hR.mono (fun g e => ?_), fun j => (h.bu j).keepT hk (fun _ => tg_old) (by have := tgB_or j; have := tgQ_or k; omega)⟩
  rcases e with ⟨e, hl⟩ | e
  · exact (tg_old hl).trans e
  · exact tg_new e
end
theorem pair_get {α : Type} {l : List α} {x y v : α} {j : Nat} (h : (l ++ [x, y])[j]? = some v) : (l[j]? = some v ∧ j < l.length) ∨ (j = l.length ∧ v = x) ∨ (j = l.length + 1 ∧ v = y) := by
  rcases Nat.lt_or_ge j l.length with q | q
  · rw [List.getElem?_append_left q] at h; exact .inl ⟨h, q⟩
  · rw [List.getElem?_append_right q] at h
    have hlt := (List.getElem?_eq_some_iff.mp h).1
    simp at hlt
    rcases (by omega : j - l.length = 0 ∨ j - l.length = 1) with e | e
    · rw [e] at h; simp at h; exact .inr (.inl ⟨by omega, h.symm⟩)
    · rw [e] at h; simp at h; exact .inr (.inr ⟨by omega, h.symm⟩)
/-- What was told, and what is told from now on. -/
def nx {α : Type} (f : Nat → α) (n : Nat) (x : α) : Nat → α := fun j => if j < n then f j else x
theorem nx_old {α : Type} {f : Nat → α} {n j : Nat} {x : α} (h : j < n) : nx f n x j = f j := if_pos h
theorem nx_new {α : Type} {f : Nat → α} {n j : Nat} {x : α} (h : n ≤ j) : nx f n x j = x := if_neg (by omega)
theorem tag6 {own : Nat → Nat} {w w' : World} {t : Nat} {e : TypeId} {n : Nat} {v v6 : Value} {l : List Value} (h : w.ownsRow 0 e 1 v n l) (ht : ∀ g, v.ownBlock = some g → own g = t) (h6 : v6.ownBlock = v.ownBlock ∨ ∃ g, v6.ownBlock = some g ∧ w.heap.size ≤ g) : ∀ g, v6.ownBlock = some g → tg own w t g = t := fun g hg => by
  rcases h6 with q | ⟨g', q, q2⟩
  · rw [tg_old (World.ownsRow.lt h g (q ▸ hg)).2]; exact ht g (q ▸ hg)
  · have e2 : g' = g := Option.some.inj (q.symm.trans hg)
    exact tg_new (by omega)

end Go.Proofs.YthkphihgdklbbaaDoor.C

namespace Go.Proofs.YthkphihgdklbbaaDoor.C
open Go.RowKit Go.Shelf
set_option linter.unusedVariables false
set_option linter.unusedSimpArgs false

section
variable {D : Nat → Prop} {own own' : Nat → Nat} {w w' : World} {q : Nat} {B R : Bool → Nat} {b : Bool → Bf} {P : Bool → List Int} {vr vw vs vx : Value} {rs ws ss xs : List Value} {C : Nat → List Int} {S : Nat → List Sp}
theorem Wl.pushR {w6 : World} {v6 l m : Value} (h : Wl own w vr vw vs vx rs ws ss xs C S) (hg : w.grownBy w6 vr.ownBlock) (h6 : w6.ownsRow 0 36 1 v6 (rs.length + 2) (rs ++ [l, m])) (ha : v6.ownBlock = vr.ownBlock ∨ ∃ g, v6.ownBlock = some g ∧ w.heap.size ≤ g) {L : List Int} (hl : BO4 w 0 l L) (tl : ∀ g, l.ownBlock = some g → own g = 20 + 2 * rs.length) (hm : BO4 w 0 m L) (tm : ∀ g, m.ownBlock = some g → own g = 20 + 2 * (rs.length + 1)) (hw : ws.length ≤ rs.length) :
    Wl (tg own w 2) w6 v6 vw vs vx (rs ++ [l, m]) ws ss xs (nx C rs.length L) S := by
  have hk : Kg (fun x => x = 2) own w w6 := Kg.grown hg h.r2
  have ho : ∀ g, g < w.heap.size → tg own w 2 g = own g := fun _ => tg_old
  refine ⟨(by rw [List.length_append]; exact h6), tag6 (w' := w6) h.r1 h.r2 ha, row_keep h.w1 h.w2 hk (by decide), tag_keep h.w1 h.w2 ho, row_keep h.s1 h.s2 hk (by decide), tag_keep h.s1 h.s2 ho, row_keep h.x1 h.x2 hk (by decide), tag_keep h.x1 h.x2 ho, fun j v hv => ?r3, fun j v g hv hg => ?r4, fun j v hv => ?w3, fun j v hv => row_keep (h.s3 j v hv) (h.s4 j v · hv) hk (by omega), fun j v g hv => tag_keep (h.s3 j v hv) (h.s4 j v · hv) ho g, fun j v hv => row_keep (h.x3 j v hv) (h.x4 j v · hv) hk (by decide), fun j v g hv => tag_keep (h.x3 j v hv) (h.x4 j v · hv) ho g⟩
  case r3 =>
    rcases pair_get hv with ⟨h1, h2⟩ | ⟨rfl, rfl⟩ | ⟨rfl, rfl⟩
    · rw [nx_old h2]; exact row_keep (h.r3 j v h1) (h.r4 j v · h1) hk (by omega)
    · rw [nx_new (Nat.le_refl _)]; exact row_keep hl tl hk (by omega)
    · rw [nx_new (by omega)]; exact row_keep hm tm hk (by omega)
  case r4 =>
    rcases pair_get hv with ⟨h1, h2⟩ | ⟨rfl, rfl⟩ | ⟨rfl, rfl⟩
    · exact tag_keep (h.r3 j v h1) (h.r4 j v · h1) ho g hg
    · exact tag_keep hl tl ho g hg
    · exact tag_keep hm tm ho g hg
  case w3 => rw [nx_old (by have := (List.getElem?_eq_some_iff.mp hv).1; omega)]; exact h.w3 j v hv
theorem Wo4.pushR {w6 : World} {v6 l m : Value} (h : Wo4 own w q B R b P vr vw vs vx rs ws ss xs C S) (hg : w.grownBy w6 vr.ownBlock) (h6 : w6.ownsRow 0 36 1 v6 (rs.length + 2) (rs ++ [l, m])) (ha : v6.ownBlock = vr.ownBlock ∨ ∃ g, v6.ownBlock = some g ∧ w.heap.size ≤ g) {L : List Int} (hl : BO4 w 0 l L) (tl : ∀ g, l.ownBlock = some g → own g = 20 + 2 * rs.length) (hm : BO4 w 0 m L) (tm : ∀ g, m.ownBlock = some g → own g = 20 + 2 * (rs.length + 1)) (hw : ws.length ≤ rs.length) :
    Wo4 (tg own w 2) (w6.setCell ⟨q, 4, none⟩ v6) q B R b P v6 vw vs vx (rs ++ [l, m]) ws ss xs (nx C rs.length L) S := by
  have hk : Kg (fun x => x = 2) own w w6 := Kg.grown hg h.l.r2
  have ho : ∀ g, g < w.heap.size → tg own w 2 g = own g := fun _ => tg_old
  have hX := h.x.keep hk ho (by decide)
  have hB := h.b.keep hk ho (fun t e => by omega)
  have hL := h.l.pushR hg h6 ha hl tl hm tm hw
  have hk1 : Kg (fun x => x = 1) (tg own w 2) w6 (w6.setCell ⟨q, 4, none⟩ v6) := Kg.cell hX.tag
  exact ⟨⟨by rw [heap_setCell_same w6 q 4 _ _ v6 hX.box]; rfl, hX.tag⟩, hB.keep hk1 (fun _ _ => rfl) (fun t e => by omega), hL.keep hk1 (fun _ _ => rfl) (fun t e => .inl (by omega))⟩
theorem Wl.pushW {w6 : World} {v6 l m : Value} (h : Wl own w vr vw vs vx rs ws ss xs C S) (hg : w.grownBy w6 vw.ownBlock) (h6 : w6.ownsRow 0 9 1 v6 (ws.length + 2) (ws ++ [l, m])) (ha : v6.ownBlock = vw.ownBlock ∨ ∃ g, v6.ownBlock = some g ∧ w.heap.size ≤ g) (hl : l = .string (strOfNums (C ws.length))) (hm : m = .string (strOfNums (C (ws.length + 1)))) :
    Wl (tg own w 3) w6 vr v6 vs vx rs (ws ++ [l, m]) ss xs C S := by
  have hk : Kg (fun x => x = 3) own w w6 := Kg.grown hg h.w2
  have ho : ∀ g, g < w.heap.size → tg own w 3 g = own g := fun _ => tg_old
  refine ⟨row_keep h.r1 h.r2 hk (by decide), tag_keep h.r1 h.r2 ho, (by rw [List.length_append]; exact h6), tag6 (w' := w6) h.w1 h.w2 ha, row_keep h.s1 h.s2 hk (by decide), tag_keep h.s1 h.s2 ho, row_keep h.x1 h.x2 hk (by decide), tag_keep h.x1 h.x2 ho, fun j v hv => row_keep (h.r3 j v hv) (h.r4 j v · hv) hk (by omega), fun j v g hv => tag_keep (h.r3 j v hv) (h.r4 j v · hv) ho g, fun j v hv => ?w3, fun j v hv => row_keep (h.s3 j v hv) (h.s4 j v · hv) hk (by omega), fun j v g hv => tag_keep (h.s3 j v hv) (h.s4 j v · hv) ho g, fun j v hv => row_keep (h.x3 j v hv) (h.x4 j v · hv) hk (by decide), fun j v g hv => tag_keep (h.x3 j v hv) (h.x4 j v · hv) ho g⟩
  case w3 =>
    rcases pair_get hv with ⟨h1, h2⟩ | ⟨rfl, rfl⟩ | ⟨rfl, rfl⟩
    · exact h.w3 j v h1
    · exact hl
    · exact hm
theorem Wo4.pushW {w6 : World} {v6 l m : Value} (h : Wo4 own w q B R b P vr vw vs vx rs ws ss xs C S) (hg : w.grownBy w6 vw.ownBlock) (h6 : w6.ownsRow 0 9 1 v6 (ws.length + 2) (ws ++ [l, m])) (ha : v6.ownBlock = vw.ownBlock ∨ ∃ g, v6.ownBlock = some g ∧ w.heap.size ≤ g) (hl : l = .string (strOfNums (C ws.length))) (hm : m = .string (strOfNums (C (ws.length + 1)))) :
    Wo4 (tg own w 3) (w6.setCell ⟨q, 5, none⟩ v6) q B R b P vr v6 vs vx rs (ws ++ [l, m]) ss xs C S := by
  have hk : Kg (fun x => x = 3) own w w6 := Kg.grown hg h.l.w2
  have ho : ∀ g, g < w.heap.size → tg own w 3 g = own g := fun _ => tg_old
  have hX := h.x.keep hk ho (by decide)
  have hB := h.b.keep hk ho (fun t e => by omega)
  have hL := h.l.pushW hg h6 ha hl hm 
  have hk1 : Kg (fun x => x = 1) (tg own w 3) w6 (w6.setCell ⟨q, 5, none⟩ v6) := Kg.cell hX.tag
  exact ⟨⟨by rw [heap_setCell_same w6 q 5 _ _ v6 hX.box]; rfl, hX.tag⟩, hB.keep hk1 (fun _ _ => rfl) (fun t e => by omega), hL.keep hk1 (fun _ _ => rfl) (fun t e => .inl (by omega))⟩
theorem Wl.pushS {w6 : World} {v6 l m : Value} (h : Wl own w vr vw vs vx rs ws ss xs C S) (hg : w.grownBy w6 vs.ownBlock) (h6 : w6.ownsRow 0 59 1 v6 (ss.length + 2) (ss ++ [l, m])) (ha : v6.ownBlock = vs.ownBlock ∨ ∃ g, v6.ownBlock = some g ∧ w.heap.size ≤ g) {L : List Sp} (hl : SOwn w 0 l L) (tl : ∀ g, l.ownBlock = some g → own g = 21 + 2 * ss.length) (hm : SOwn w 0 m L) (tm : ∀ g, m.ownBlock = some g → own g = 21 + 2 * (ss.length + 1)) (hw : xs.length ≤ ss.length) :
    Wl (tg own w 4) w6 vr vw v6 vx rs ws (ss ++ [l, m]) xs C (nx S ss.length L) := by
  have hk : Kg (fun x => x = 4) own w w6 := Kg.grown hg h.s2
  have ho : ∀ g, g < w.heap.size → tg own w 4 g = own g := fun _ => tg_old
  refine ⟨row_keep h.r1 h.r2 hk (by decide), tag_keep h.r1 h.r2 ho, row_keep h.w1 h.w2 hk (by decide), tag_keep h.w1 h.w2 ho, (by rw [List.length_append]; exact h6), tag6 (w' := w6) h.s1 h.s2 ha, row_keep h.x1 h.x2 hk (by decide), tag_keep h.x1 h.x2 ho, fun j v hv => row_keep (h.r3 j v hv) (h.r4 j v · hv) hk (by omega), fun j v g hv => tag_keep (h.r3 j v hv) (h.r4 j v · hv) ho g, h.w3, fun j v hv => ?s3, fun j v g hv hg => ?s4, fun j v hv => ?x3, fun j v g hv => tag_keep (h.x3 j v hv) (h.x4 j v · hv) ho g⟩
  case s3 =>
    rcases pair_get hv with ⟨h1, h2⟩ | ⟨rfl, rfl⟩ | ⟨rfl, rfl⟩
    · rw [nx_old h2]; exact row_keep (h.s3 j v h1) (h.s4 j v · h1) hk (by omega)
    · rw [nx_new (Nat.le_refl _)]; exact row_keep hl tl hk (by omega)
    · rw [nx_new (by omega)]; exact row_keep hm tm hk (by omega)
  case s4 =>
    rcases pair_get hv with ⟨h1, h2⟩ | ⟨rfl, rfl⟩ | ⟨rfl, rfl⟩
    · exact tag_keep (h.s3 j v h1) (h.s4 j v · h1) ho g hg
    · exact tag_keep hl tl ho g hg
    · exact tag_keep hm tm ho g hg
  case x3 => rw [nx_old (by have := (List.getElem?_eq_some_iff.mp hv).1; omega)]; exact row_keep (h.x3 j v hv) (h.x4 j v · hv) hk (by decide)
theorem Wo4.pushS {w6 : World} {v6 l m : Value} (h : Wo4 own w q B R b P vr vw vs vx rs ws ss xs C S) (hg : w.grownBy w6 vs.ownBlock) (h6 : w6.ownsRow 0 59 1 v6 (ss.length + 2) (ss ++ [l, m])) (ha : v6.ownBlock = vs.ownBlock ∨ ∃ g, v6.ownBlock = some g ∧ w.heap.size ≤ g) {L : List Sp} (hl : SOwn w 0 l L) (tl : ∀ g, l.ownBlock = some g → own g = 21 + 2 * ss.length) (hm : SOwn w 0 m L) (tm : ∀ g, m.ownBlock = some g → own g = 21 + 2 * (ss.length + 1)) (hw : xs.length ≤ ss.length) :
    Wo4 (tg own w 4) (w6.setCell ⟨q, 6, none⟩ v6) q B R b P vr vw v6 vx rs ws (ss ++ [l, m]) xs C (nx S ss.length L) := by
  have hk : Kg (fun x => x = 4) own w w6 := Kg.grown hg h.l.s2
  have ho : ∀ g, g < w.heap.size → tg own w 4 g = own g := fun _ => tg_old
  have hX := h.x.keep hk ho (by decide)
  have hB := h.b.keep hk ho (fun t e => by omega)
  have hL := h.l.pushS hg h6 ha hl tl hm tm hw
  have hk1 : Kg (fun x => x = 1) (tg own w 4) w6 (w6.setCell ⟨q, 6, none⟩ v6) := Kg.cell hX.tag
  exact ⟨⟨by rw [heap_setCell_same w6 q 6 _ _ v6 hX.box]; rfl, hX.tag⟩, hB.keep hk1 (fun _ _ => rfl) (fun t e => by omega), hL.keep hk1 (fun _ _ => rfl) (fun t e => .inl (by omega))⟩
theorem Wl.pushX {w6 : World} {v6 l m : Value} (h : Wl own w vr vw vs vx rs ws ss xs C S) (hg : w.grownBy w6 vx.ownBlock) (h6 : w6.ownsRow 0 59 1 v6 (xs.length + 2) (xs ++ [l, m])) (ha : v6.ownBlock = vx.ownBlock ∨ ∃ g, v6.ownBlock = some g ∧ w.heap.size ≤ g) (hl : SOwn w 0 l (S xs.length)) (tl : ∀ g, l.ownBlock = some g → own g = 7) (hm : SOwn w 0 m (S (xs.length + 1))) (tm : ∀ g, m.ownBlock = some g → own g = 7) :
    Wl (tg own w 6) w6 vr vw vs v6 rs ws ss (xs ++ [l, m]) C S := by
  have hk : Kg (fun x => x = 6) own w w6 := Kg.grown hg h.x2
  have ho : ∀ g, g < w.heap.size → tg own w 6 g = own g := fun _ => tg_old
  refine ⟨row_keep h.r1 h.r2 hk (by decide), tag_keep h.r1 h.r2 ho, row_keep h.w1 h.w2 hk (by decide), tag_keep h.w1 h.w2 ho, row_keep h.s1 h.s2 hk (by decide), tag_keep h.s1 h.s2 ho, (by rw [List.length_append]; exact h6), tag6 (w' := w6) h.x1 h.x2 ha, fun j v hv => row_keep (h.r3 j v hv) (h.r4 j v · hv) hk (by omega), fun j v g hv => tag_keep (h.r3 j v hv) (h.r4 j v · hv) ho g, h.w3, fun j v hv => row_keep (h.s3 j v hv) (h.s4 j v · hv) hk (by omega), fun j v g hv => tag_keep (h.s3 j v hv) (h.s4 j v · hv) ho g, fun j v hv => ?x3, fun j v g hv hg => ?x4⟩
  case x3 =>
    rcases pair_get hv with ⟨h1, h2⟩ | ⟨rfl, rfl⟩ | ⟨rfl, rfl⟩
    · exact row_keep (h.x3 j v h1) (h.x4 j v · h1) hk (by decide)
    · exact row_keep hl tl hk (by decide)
    · exact row_keep hm tm hk (by decide)
  case x4 =>
    rcases pair_get hv with ⟨h1, h2⟩ | ⟨rfl, rfl⟩ | ⟨rfl, rfl⟩
    · exact tag_keep (h.x3 j v h1) (h.x4 j v · h1) ho g hg
    · exact tag_keep hl tl ho g hg
    · exact tag_keep hm tm ho g hg
theorem Wo4.pushX {w6 : World} {v6 l m : Value} (h : Wo4 own w q B R b P vr vw vs vx rs ws ss xs C S) (hg : w.grownBy w6 vx.ownBlock) (h6 : w6.ownsRow 0 59 1 v6 (xs.length + 2) (xs ++ [l, m])) (ha : v6.ownBlock = vx.ownBlock ∨ ∃ g, v6.ownBlock = some g ∧ w.heap.size ≤ g) (hl : SOwn w 0 l (S xs.length)) (tl : ∀ g, l.ownBlock = some g → own g = 7) (hm : SOwn w 0 m (S (xs.length + 1))) (tm : ∀ g, m.ownBlock = some g → own g = 7) :
    Wo4 (tg own w 6) (w6.setCell ⟨q, 7, none⟩ v6) q B R b P vr vw vs v6 rs ws ss (xs ++ [l, m]) C S := by
  have hk : Kg (fun x => x = 6) own w w6 := Kg.grown hg h.l.x2
  have ho : ∀ g, g < w.heap.size → tg own w 6 g = own g := fun _ => tg_old
  have hX := h.x.keep hk ho (by decide)
  have hB := h.b.keep hk ho (fun t e => by omega)
  have hL := h.l.pushX hg h6 ha hl tl hm tm 
  have hk1 : Kg (fun x => x = 1) (tg own w 6) w6 (w6.setCell ⟨q, 7, none⟩ v6) := Kg.cell hX.tag
  exact ⟨⟨by rw [heap_setCell_same w6 q 7 _ _ v6 hX.box]; rfl, hX.tag⟩, hB.keep hk1 (fun _ _ => rfl) (fun t e => by omega), hL.keep hk1 (fun _ _ => rfl) (fun t e => .inl (by omega))⟩
end
end Go.Proofs.YthkphihgdklbbaaDoor.C

namespace Go.Proofs.YthkphihgdklbbaaDoor.C
open Go.RowKit Go.Shelf
set_option linter.unusedVariables false
set_option linter.unusedSimpArgs false

/-- What a new pair of buffers makes of the World's block. -/
def mkC (k : Bool) (c0 c1 c2 c3 c4 c5 c6 c7 : Value) (x y : Nat) : Array Value :=
  if k = true then #[c0, .pointer (some ⟨x, 0, none⟩), c2, .pointer (some ⟨y, 0, none⟩), c4, c5, c6, c7] else #[.pointer (some ⟨x, 0, none⟩), c1, .pointer (some ⟨y, 0, none⟩), c3, c4, c5, c6, c7]
def MkP4 (q : Nat) (k : Bool) (c0 c1 c2 c3 c4 c5 c6 c7 : Value) (w w' : World) : Prop :=
  ∃ x y M, w'.heap[q]? = some (.cells (mkC k c0 c1 c2 c3 c4 c5 c6 c7 x y) 33 (0, 0)) ∧ Bu w' x (fun g => w.heap.size ≤ g ∧ g < M) bf0 ∧ Rf w' y (fun g => M ≤ g ∧ g < w'.heap.size) [] false ∧ w.heap.size ≤ M ∧ Kf (fun g => g = q) w w'
theorem mk_end {q : Nat} {k : Bool} {c0 c1 c2 c3 c4 c5 c6 c7 : Value} {w v1 v2 : World} {x y : Nat} (hq : w.heap[q]? = some (.cells #[c0, c1, c2, c3, c4, c5, c6, c7] 33 (0, 0)))
    (h1 : Bu v1 x (fun g => w.heap.size ≤ g) bf0) (b1 : Below w.heap.size w v1)
    (h2 : Rf v2 y (fun g => v1.heap.size ≤ g) [] false) (b2 : Below v1.heap.size (v1.setCell ⟨q, if k = true then 1 else 0, none⟩ (.pointer (some ⟨x, 0, none⟩))) v2) :
    MkP4 q k c0 c1 c2 c3 c4 c5 c6 c7 w (v2.setCell ⟨q, if k = true then 3 else 2, none⟩ (.pointer (some ⟨y, 0, none⟩))) := by
  have hql : q < w.heap.size := (Array.getElem?_eq_some_iff.1 hq).1
  have e1 : v1.heap[q]? = _ := (b1.block q hql).trans hq
  have hs1 : (v1.setCell ⟨q, if k = true then 1 else 0, none⟩ (.pointer (some ⟨x, 0, none⟩))).heap.size = v1.heap.size := by simp [World.setCell]
  have hs2 : (v2.setCell ⟨q, if k = true then 3 else 2, none⟩ (.pointer (some ⟨y, 0, none⟩))).heap.size = v2.heap.size := by simp [World.setCell]
  have hz := b2.size
  rw [hs1] at hz
  have hz1 := b1.size
  have e2 := heap_setCell_same v1 q (if k = true then 1 else 0) _ _ (.pointer (some ⟨x, 0, none⟩)) e1
  have e3 : v2.heap[q]? = _ := (b2.block q (by omega)).trans e2
  have e4 := heap_setCell_same v2 q (if k = true then 3 else 2) _ _ (.pointer (some ⟨y, 0, none⟩)) e3
  have hsm : ∀ g, g < v1.heap.size → g ≠ q → (v2.setCell ⟨q, if k = true then 3 else 2, none⟩ (.pointer (some ⟨y, 0, none⟩))).heap[g]? = v1.heap[g]? := fun g hg hn =>
    (heap_setCell_other _ _ _ _ hn).trans ((b2.block g hg).trans (heap_setCell_other _ _ _ _ hn))
  refine ⟨x, y, v1.heap.size, ?_, ?_, ?_, hz1, ⟨⟨?_, ?_, ?_⟩, by rw [hs2]; omega, fun g hg hn => (hsm g (by omega) hn).trans (b1.block g hg)⟩⟩
  · rw [e4]; cases k <;> rfl
  · exact (h1.cut.same (fun g hg _ => hsm g hg.2 (fun e => by have := hg.1; omega)))
  · refine (h2.cut.same (fun g hg _ => heap_setCell_other _ _ _ _ (fun e => by have := hg.1; simp only at e; omega))).mono (fun g hg => ⟨hg.1, by rw [hs2]; exact hg.2⟩)
  · exact b2.os.trans b1.os
  · exact b2.tape.trans b1.tape
  · exact b2.output.trans b1.output

set_option maxHeartbeats 8000000 in
set_option maxRecDepth 100000 in
theorem makes4_false (q : Nat) (c0 c1 c2 c3 c4 c5 c6 c7 : Value) (w : World) (hq : w.heap[q]? = some (.cells #[c0, c1, c2, c3, c4, c5, c6, c7] 33 (0, 0))) :
    Calls Tryd.prog 6 #[.pointer (some ⟨q, 0, none⟩), .int .i64 0] w fun e w' => e = .returned (.bool true) ∧ MkP4 q false c0 c1 c2 c3 c4 c5 c6 c7 w w' := by
  have HQ : Hid (w.heap[q]? = some (.cells #[c0, c1, c2, c3, c4, c5, c6, c7] 33 (0, 0))) := hq
  have hql : q < w.heap.size := (Array.getElem?_eq_some_iff.1 hq).1
  have q0 : w.cell? ⟨q, 0, none⟩ = some c0 := cell_of_row _ _ 0 _ _ _ hq
  have f0 : w.frozen? ⟨q, 0, none⟩ = false := frozen_of_row _ _ 0 _ _ hq
  clear hq
  go_enter Tryd.func6, Tryd.ntmps6
  go_wp2_with fail
  go_region_with (first
    | (go_at_call 11
       refine (new4_any _).mono ?_
       rintro e v1 ⟨rfl, hB1, hb1⟩
       have HB1 : Hid (Bu v1 w.heap.size (fun g => w.heap.size ≤ g) bf0 ∧ Below w.heap.size w v1) := ⟨hB1, (Below.drew (Below.refl _ w)).trans hb1⟩
       have r0 : v1.cell? ⟨q, 0, none⟩ = some c0 := (HB1.out.2.cell (p := ⟨q, 0, none⟩) hql).trans q0
       have s0 : v1.frozen? ⟨q, 0, none⟩ = false := frozen_of_row _ _ 0 _ _ ((HB1.out.2.block q hql).trans HQ.out)
       clear hB1 hb1))
  all_goals (
    have HZ : Hid (w.heap.size ≤ v1.heap.size) := HB1.out.2.size
    obtain ⟨X, hX⟩ : ∃ X, w.heap.size = X := ⟨_, rfl⟩
    rw [hX] at HB1 HZ
    have HX : Hid (w.heap.size = X) := hX
    obtain ⟨W, hW⟩ : ∃ W, v1.setCell ⟨q, 0, none⟩ (.pointer (some ⟨X, 0, none⟩)) = W := ⟨_, rfl⟩
    have HW : Hid (v1.setCell ⟨q, 0, none⟩ (.pointer (some ⟨X, 0, none⟩)) = W) := hW
    have HWb : Hid (W.heap[q]? = some (.cells (#[c0, c1, c2, c3, c4, c5, c6, c7].set! 0 (.pointer (some ⟨X, 0, none⟩))) 33 (0, 0))) := by
      show W.heap[q]? = _
      rw [← hW, heap_setCell_same v1 q 0 _ _ _ ((HB1.out.2.block q (hX ▸ hql)).trans HQ.out)]
      rfl
    have HWs : Hid (W.heap.size = v1.heap.size) := by show W.heap.size = _; rw [← hW]; simp [World.setCell]
    have t0 : W.cell? ⟨q, 2, none⟩ = some c2 := cell_of_row _ _ 2 _ _ _ HWb.out
    have t1 : W.cell? ⟨q, 0, none⟩ = some (.pointer (some ⟨X, 0, none⟩)) := cell_of_row _ _ 0 _ _ _ HWb.out
    have g0 : W.frozen? ⟨q, 2, none⟩ = false := frozen_of_row _ _ 2 _ _ HWb.out
    have hqW : q < W.heap.size := by rw [HWs.out]; have := HZ.out; omega
    rw [hX, hW]
    clear r0 s0 hX hW q0 f0
    go_wp2_with fail
    go_region_with (first
      | (go_at_call 20
         refine (newR_any _).mono ?_
         rintro e v2 ⟨rfl, hB2, hb2⟩
         have HB2 : Hid (Rf v2 W.heap.size (fun g => W.heap.size ≤ g) [] false ∧ Below W.heap.size W v2) := ⟨hB2, (Below.drew (Below.refl _ W)).trans hb2⟩
         have r0 : v2.cell? ⟨q, 2, none⟩ = some c2 := (HB2.out.2.cell (p := ⟨q, 2, none⟩) hqW).trans t0
         have r1 : v2.cell? ⟨q, 0, none⟩ = some (.pointer (some ⟨X, 0, none⟩)) := (HB2.out.2.cell (p := ⟨q, 0, none⟩) hqW).trans t1
         have s0 : v2.frozen? ⟨q, 2, none⟩ = false := frozen_of_row _ _ 2 _ _ ((HB2.out.2.block q hqW).trans HWb.out)
         clear hB2 hb2))
    all_goals (
      have r2 : (v2.setCell ⟨q, 2, none⟩ (.pointer (some ⟨W.heap.size, 0, none⟩))).cell? ⟨q, 0, none⟩ = some (.pointer (some ⟨X, 0, none⟩)) := cell_of_row _ _ 0 _ _ _ (heap_setCell_same v2 q 2 _ _ _ ((HB2.out.2.block q hqW).trans HWb.out))
      have HEnd : Hid (MkP4 q false c0 c1 c2 c3 c4 c5 c6 c7 w (v2.setCell ⟨q, 2, none⟩ (.pointer (some ⟨W.heap.size, 0, none⟩)))) := by
        have h := mk_end (k := false) (v1 := v1) (v2 := v2) (x := X) (y := W.heap.size) HQ.out (by rw [HX.out]; exact HB1.out.1) (by rw [HX.out]; exact HB1.out.2) (by rw [← HWs.out]; exact HB2.out.1) (by rw [← HWs.out]; exact HW.out ▸ HB2.out.2)
        exact h
      clear r0 r1 s0 t0 t1 g0
      obtain ⟨V, hV⟩ : ∃ V, v2.setCell ⟨q, 2, none⟩ (.pointer (some ⟨W.heap.size, 0, none⟩)) = V := ⟨_, rfl⟩
      rw [hV] at r2 HEnd ⊢
      clear hV
      go_wp2
      go_ret
      exact ⟨rfl, HEnd.out⟩)
  )

set_option maxHeartbeats 8000000 in
set_option maxRecDepth 100000 in
theorem makes4_true (q : Nat) (c0 c1 c2 c3 c4 c5 c6 c7 : Value) (w : World) (hq : w.heap[q]? = some (.cells #[c0, c1, c2, c3, c4, c5, c6, c7] 33 (0, 0))) :
    Calls Tryd.prog 6 #[.pointer (some ⟨q, 0, none⟩), .int .i64 1] w fun e w' => e = .returned (.bool true) ∧ MkP4 q true c0 c1 c2 c3 c4 c5 c6 c7 w w' := by
  have HQ : Hid (w.heap[q]? = some (.cells #[c0, c1, c2, c3, c4, c5, c6, c7] 33 (0, 0))) := hq
  have hql : q < w.heap.size := (Array.getElem?_eq_some_iff.1 hq).1
  have q0 : w.cell? ⟨q, 1, none⟩ = some c1 := cell_of_row _ _ 1 _ _ _ hq
  have f0 : w.frozen? ⟨q, 1, none⟩ = false := frozen_of_row _ _ 1 _ _ hq
  clear hq
  go_enter Tryd.func6, Tryd.ntmps6
  go_wp2_with fail
  go_region_with (first
    | (go_at_call 11
       refine (new4_any _).mono ?_
       rintro e v1 ⟨rfl, hB1, hb1⟩
       have HB1 : Hid (Bu v1 w.heap.size (fun g => w.heap.size ≤ g) bf0 ∧ Below w.heap.size w v1) := ⟨hB1, (Below.drew (Below.refl _ w)).trans hb1⟩
       have r0 : v1.cell? ⟨q, 1, none⟩ = some c1 := (HB1.out.2.cell (p := ⟨q, 1, none⟩) hql).trans q0
       have s0 : v1.frozen? ⟨q, 1, none⟩ = false := frozen_of_row _ _ 1 _ _ ((HB1.out.2.block q hql).trans HQ.out)
       clear hB1 hb1))
  all_goals (
    have HZ : Hid (w.heap.size ≤ v1.heap.size) := HB1.out.2.size
    obtain ⟨X, hX⟩ : ∃ X, w.heap.size = X := ⟨_, rfl⟩
    rw [hX] at HB1 HZ
    have HX : Hid (w.heap.size = X) := hX
    obtain ⟨W, hW⟩ : ∃ W, v1.setCell ⟨q, 1, none⟩ (.pointer (some ⟨X, 0, none⟩)) = W := ⟨_, rfl⟩
    have HW : Hid (v1.setCell ⟨q, 1, none⟩ (.pointer (some ⟨X, 0, none⟩)) = W) := hW
    have HWb : Hid (W.heap[q]? = some (.cells (#[c0, c1, c2, c3, c4, c5, c6, c7].set! 1 (.pointer (some ⟨X, 0, none⟩))) 33 (0, 0))) := by
      show W.heap[q]? = _
      rw [← hW, heap_setCell_same v1 q 1 _ _ _ ((HB1.out.2.block q (hX ▸ hql)).trans HQ.out)]
      rfl
    have HWs : Hid (W.heap.size = v1.heap.size) := by show W.heap.size = _; rw [← hW]; simp [World.setCell]
    have t0 : W.cell? ⟨q, 3, none⟩ = some c3 := cell_of_row _ _ 3 _ _ _ HWb.out
    have t1 : W.cell? ⟨q, 1, none⟩ = some (.pointer (some ⟨X, 0, none⟩)) := cell_of_row _ _ 1 _ _ _ HWb.out
    have g0 : W.frozen? ⟨q, 3, none⟩ = false := frozen_of_row _ _ 3 _ _ HWb.out
    have hqW : q < W.heap.size := by rw [HWs.out]; have := HZ.out; omega
    rw [hX, hW]
    clear r0 s0 hX hW q0 f0
    go_wp2_with fail
    go_region_with (first
      | (go_at_call 20
         refine (newR_any _).mono ?_
         rintro e v2 ⟨rfl, hB2, hb2⟩
         have HB2 : Hid (Rf v2 W.heap.size (fun g => W.heap.size ≤ g) [] false ∧ Below W.heap.size W v2) := ⟨hB2, (Below.drew (Below.refl _ W)).trans hb2⟩
         have r0 : v2.cell? ⟨q, 3, none⟩ = some c3 := (HB2.out.2.cell (p := ⟨q, 3, none⟩) hqW).trans t0
         have r1 : v2.cell? ⟨q, 1, none⟩ = some (.pointer (some ⟨X, 0, none⟩)) := (HB2.out.2.cell (p := ⟨q, 1, none⟩) hqW).trans t1
         have s0 : v2.frozen? ⟨q, 3, none⟩ = false := frozen_of_row _ _ 3 _ _ ((HB2.out.2.block q hqW).trans HWb.out)
         clear hB2 hb2))
    all_goals (
      have r2 : (v2.setCell ⟨q, 3, none⟩ (.pointer (some ⟨W.heap.size, 0, none⟩))).cell? ⟨q, 1, none⟩ = some (.pointer (some ⟨X, 0, none⟩)) := cell_of_row _ _ 1 _ _ _ (heap_setCell_same v2 q 3 _ _ _ ((HB2.out.2.block q hqW).trans HWb.out))
      have HEnd : Hid (MkP4 q true c0 c1 c2 c3 c4 c5 c6 c7 w (v2.setCell ⟨q, 3, none⟩ (.pointer (some ⟨W.heap.size, 0, none⟩)))) := by
        have h := mk_end (k := true) (v1 := v1) (v2 := v2) (x := X) (y := W.heap.size) HQ.out (by rw [HX.out]; exact HB1.out.1) (by rw [HX.out]; exact HB1.out.2) (by rw [← HWs.out]; exact HB2.out.1) (by rw [← HWs.out]; exact HW.out ▸ HB2.out.2)
        exact h
      clear r0 r1 s0 t0 t1 g0
      obtain ⟨V, hV⟩ : ∃ V, v2.setCell ⟨q, 3, none⟩ (.pointer (some ⟨W.heap.size, 0, none⟩)) = V := ⟨_, rfl⟩
      rw [hV] at r2 HEnd ⊢
      clear hV
      go_wp2
      go_ret
      exact ⟨rfl, HEnd.out⟩)
  )

end Go.Proofs.YthkphihgdklbbaaDoor.C
