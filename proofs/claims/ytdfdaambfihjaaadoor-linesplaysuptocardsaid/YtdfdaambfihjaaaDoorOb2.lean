import Derived.Test.YtdfdaambfihjaaaDoorRx2
import Derived.ArgAppend
import Derived.Maps.AppendAt
import Derived.Deep.RegionHeld3
import Derived.BigQuiet
namespace Go.Proofs.YtdfdaambfihjaaaDoor
open Go.RowKit
set_option linter.unusedVariables false
set_option linter.unusedSimpArgs false

/-- AN APPEND OF ONE: in place, or in a new block; whatever begins as the row does keeps what it has. -/
theorem append_b {P : Program} (w : World) {ops : Array Oper} {rest : List Oper} {o : Oper} {a : Act} {Q : Exit → Act → World → Prop} (hgd : o.guard = none) (s x : Operand) (ts : TypeId)
    (ho : o.op = .call { callee := .builtin .append, args := #[s, x], argTypes := #[ts, ts] })
    (t : TypeId) (i : TypeInfo) (z : Value) (bytes : Nat) (ht : P.underlying ts = some (.slice t)) (hi : P.info? t = some i) (hz : i.zero = some z)
    (hsize : i.size = 1) (hby : i.bytes = bytes) (hzs : z.cells.size = 1)
    (v : Value) (n : Nat) (xs : List Value) (hs : a.eval s = v) (hown : w.ownsRow 0 t 1 v n xs)
    (ad : Addr) (cc : Nat) (b : Value) (hx : a.eval x = .slice (some ad) 1 cc) (hnews : ∀ j u, [b][j]? = some u → w.cell? (ad.add j) = some u) (h1 : b.oneCell' = true)
    (hbytes : (n + 1) * bytes ≤ 140737488355328) (h63 : n + 1 ≤ maxLen)
    (h : ∀ v' w', w'.ownsRow 0 t 1 v' (n + 1) (xs ++ [b]) → w.grownBy w' v.ownBlock → (v'.ownBlock = v.ownBlock ∨ ∃ g, v'.ownBlock = some g ∧ w.heap.size ≤ g) →
      (∀ u m ys, w.ownsRow 0 t 1 u m ys → (∀ g, u.ownBlock = some g → v.ownBlock = some g → ys = xs.take m ∧ m ≤ n) → w'.ownsRow 0 t 1 u m ys) → wpList P ops Q rest (a.put o.dst v') w') : wpList P ops Q (o :: rest) a w := by
  have h1c : ∀ u ∈ [b], u.oneCell' = true := fun u hu => by simp at hu; subst hu; exact h1
  have hgrows : ∀ (ao : Option Addr) (cap : Nat), v = .slice ao n cap → (ao = none → n = 0 ∧ cap = 0) → (∀ b, ao = some b → ∀ j u, xs[j]? = some u → w.cell? (b.add j) = some u) → cap < n + 1 → wpList P ops Q (o :: rest) a w := fun ao cap hv hnone holds hfull => by
    refine wpList_append_grows w hgd s x ts ho t i z 1 bytes ht hi hz hsize hby hzs (by decide) ao n cap xs (by rw [hs, hv]) hnone (by have := hown.1; omega) holds ad 1 cc [b] hx rfl hnews h1c hfull h63 hbytes ?_
    intro v' w' ho' hg'
    refine h v' w' ?_ ⟨hg'.os, hg'.tape, hg'.output, hg'.size, fun j hj _ => hg'.block j hj (by simp)⟩ (.inr ?_) (fun u m ys hu _ => ?_)
    · obtain ⟨k1, ⟨e, e0⟩ | ⟨g, cap', cur, e, q⟩⟩ := ho'
      · exact ⟨k1, .inl ⟨e, e0⟩⟩
      · exact ⟨k1, .inr ⟨g, cap', cur, e, Nat.zero_le _, q.2⟩⟩
    · obtain ⟨k1, ⟨e, e0⟩ | ⟨g, cap', cur, rfl, q, _⟩⟩ := ho'
      · omega
      · exact ⟨g, rfl, q⟩
    · obtain ⟨k1, ⟨e, e0⟩ | ⟨g, cap', cur, e, q1, q2, q3⟩⟩ := hu
      · exact ⟨k1, .inl ⟨e, e0⟩⟩
      · exact ⟨k1, .inr ⟨g, cap', cur, e, q1, (hg'.block g (Array.getElem?_eq_some_iff.mp q2).1 (by simp)).trans q2, q3⟩⟩
  obtain ⟨hxl, ⟨rfl, h0⟩ | ⟨g, cap, cur, rfl, hb, hg, e1, e2, e3, e4⟩⟩ := id hown
  · exact hgrows none 0 (by rw [h0]) (fun _ => ⟨h0, rfl⟩) (fun b hb => by cases hb) (by omega)
  · by_cases hfit : n + 1 ≤ cap
    · refine wpList_append_fits w hgd s x ts ho 0 t i 1 ht hi hsize g n cap xs hs hown ad 1 cc [b] hx rfl hnews h1c hfit ?_
      intro w' ho' hg'
      refine h _ w' ho' hg' (.inl rfl) (fun u m ys hu hp => ?_)
      obtain ⟨k1, ⟨e, f0⟩ | ⟨g2, cap2, cur2, rfl, f1, f2, f3, f4, f5, f6⟩⟩ := hu
      · exact ⟨k1, .inl ⟨e, f0⟩⟩
      · by_cases hgg : g2 = g
        · subst hgg
          obtain ⟨p1, p2⟩ := hp g2 rfl rfl
          rw [hg] at f2
          simp only [Option.some.injEq, Obj.cells.injEq] at f2
          obtain ⟨f2, _⟩ := f2
          subst f2
          obtain ⟨_, ⟨x0, _⟩ | ⟨g3, cap3, cur3, x0, x1, x2, x3, x4, x5, x6⟩⟩ := ho'
          · cases x0
          · simp only [Value.slice.injEq, Option.some.injEq, Addr.mk.injEq, and_true, true_and] at x0
            obtain ⟨rfl, rfl⟩ := x0
            refine ⟨k1, .inr ⟨g2, cap2, cur3, rfl, Nat.zero_le _, x2, f3, f4, by omega, ?_⟩⟩
            have e7 : cur3.toList.take (m * 1) = (cur3.toList.take ((n + 1) * 1)).take (m * 1) := by rw [List.take_take, Nat.min_eq_left (by omega)]
            rw [e7, x6, List.take_append_of_le_length (by omega), p1, Nat.mul_one]
        · exact ⟨k1, .inr ⟨g2, cap2, cur2, rfl, f1, (hg'.block g2 (Array.getElem?_eq_some_iff.mp f2).1 (fun e => hgg (Option.some.inj e))).trans f2, f3, f4, f5, f6⟩⟩
    · refine hgrows (some ⟨g, 0, none⟩) cap rfl (fun e => by cases e) (fun b hb j u hj => ?_) (by omega)
      cases hb
      exact World.ownsRow.cells (g := g) hown rfl j u hj

/-- A row of bytes of its own. -/
def BOwn (w : World) (base : Nat) (v : Value) (L : List Int) : Prop := w.ownsRow base 5 1 v L.length (L.map (Value.int .u8))
theorem BOwn.shape {w : World} {base : Nat} {v : Value} {L : List Int} (h : BOwn w base v L) : ∃ a c, v = .slice a L.length c := by
  obtain ⟨_, ⟨e, e0⟩ | ⟨g, cap, cur, e, _⟩⟩ := h
  · exact ⟨none, 0, by rw [e, e0]⟩
  · exact ⟨_, _, e⟩
theorem BOwn.lenEq {w : World} {base n c : Nat} {a : Option Addr} {L : List Int} (h : BOwn w base (.slice a n c) L) : L.length = n := by
  obtain ⟨a', c', e⟩ := h.shape
  simp only [Value.slice.injEq] at e
  exact e.2.1.symm
theorem BOwn.lt {w : World} {base : Nat} {v : Value} {L : List Int} (h : BOwn w base v L) : ∀ g, v.ownBlock = some g → base ≤ g ∧ g < w.heap.size := World.ownsRow.lt h
theorem BOwn.blk {w w' : World} {base : Nat} {v : Value} {L : List Int} (h : BOwn w base v L) (hb : ∀ g, v.ownBlock = some g → w'.heap[g]? = w.heap[g]?) : BOwn w' base v L := C.own_blk2 h hb
theorem BOwn.some' {w : World} {base : Nat} {v : Value} {L : List Int} (h : BOwn w base v L) (hn : 0 < L.length) : ∃ g cap, v = .slice (some ⟨g, 0, none⟩) L.length cap := C.own_some h hn
theorem BOwn.cell {w : World} {base g n cap k : Nat} {L : List Int} {x : Int} (h : BOwn w base (.slice (some ⟨g, 0, none⟩) n cap) L) (hk : L[k]? = some x) : w.cell? ⟨g, k, none⟩ = some (.int .u8 x) ∧ w.frozen? ⟨g, k, none⟩ = false := by
  have hn := h.lenEq
  subst hn
  have hkl : k < L.length := (List.getElem?_eq_some_iff.mp hk).1
  exact ⟨(World.ownsRow.cellAt h _ (by omega)).trans (by rw [List.getElem?_map, hk]; rfl), World.ownsRow.frozenAt h _⟩
theorem BOwn.put {w : World} {base g n cap : Nat} {L : List Int} (h : BOwn w base (.slice (some ⟨g, 0, none⟩) n cap) L) (k : Nat) (x : Int) : BOwn (w.setCell ⟨g, k, none⟩ (.int .u8 x)) base (.slice (some ⟨g, 0, none⟩) n cap) (L.set k x) := by
  have hn := h.lenEq
  subst hn
  have h1 := (World.ownsRow.stored h k (.int .u8 x)).1
  unfold BOwn
  rw [List.length_set, List.map_set]
  exact h1
/-- The mark of row i at the place k. -/
def mB (i k : Int) : Int := if k.tmod 2 = 0 then i % 256 else bits .xor .u8 (i / 256 % 256) 85
theorem markByte_any (i k : Int) (w : World) : Calls Tryd.prog 63 #[.int .i64 i, .int .i64 k] w fun e w' => e = .returned (.int .u8 (mB i k)) ∧ w' = w := by
  by_cases h : k.tmod 2 = 0
  · have e0 : (k.tmod 2 == 0) = true := by simp [h]
    have e : mB i k = i % 256 := by unfold mB; rw [if_pos h]
    rw [e]
    go_enter Tryd.func63, Tryd.ntmps63
    go_wp2
    go_ret
    exact ⟨rfl, rfl⟩
  · have e0 : (k.tmod 2 == 0) = false := by simp [h]
    have e : mB i k = bits .xor .u8 (i / 256 % 256) 85 := by unfold mB; rw [if_neg h]
    rw [e]
    go_enter Tryd.func63, Tryd.ntmps63
    go_wp2
    go_ret
    exact ⟨rfl, rfl⟩

end Go.Proofs.YtdfdaambfihjaaaDoor

namespace Go.Proofs.YtdfdaambfihjaaaDoor
open Go.RowKit
set_option linter.unusedVariables false
set_option linter.unusedSimpArgs false

def mkB (i n : Nat) : List Int := (List.range n).map (fun (k : Nat) => mB (i : Int) (k : Int))
theorem mkB_len (i n : Nat) : (mkB i n).length = n := by simp [mkB]
theorem mkB_at {i n k : Nat} (h : k < n) : (mkB i n)[k]? = some (mB (i : Int) (k : Int)) := by simp [mkB, h]
theorem mkB_succ (i n : Nat) : mkB i (n + 1) = mkB i n ++ [mB (i : Int) (n : Int)] := by simp [mkB, List.range_succ]
theorem mkB_take (i n k : Nat) : (mkB i (n + k)).take n = mkB i n := by
  apply List.ext_getElem?
  intro q
  rw [List.getElem?_take]
  by_cases h : q < n
  · rw [if_pos h, mkB_at (by omega), mkB_at h]
  · rw [if_neg h, List.getElem?_eq_none (by rw [mkB_len]; omega)]
theorem all_mkB {i n : Nat} {l : List Int} (hl : l.length = n) (h : ∀ q : Nat, q < n → l[q]? = some (mB (i : Int) (q : Int))) : l = mkB i n := by
  apply List.ext_getElem?
  intro q
  by_cases e : q < n
  · rw [h q e, mkB_at e]
  · rw [List.getElem?_eq_none (by omega), List.getElem?_eq_none (by rw [mkB_len]; omega)]

/-- Rows of bytes: their values, what they hold, whose their blocks are. -/
structure Lob (own : Nat → Nat) (w : World) (os : List Value) (Cs : Nat → List Int) (c : Nat) : Prop where
  kr : ∀ (j : Nat) v, c ≤ j → os[j]? = some v → BOwn w 0 v (Cs j)
  tk : ∀ (j : Nat) v g, c ≤ j → os[j]? = some v → v.ownBlock = some g → own g = 10 + j
section
variable {own own' : Nat → Nat} {w w' : World} {os : List Value} {Cs : Nat → List Int} {c : Nat}
theorem Lob.keep {row : Option Nat} {t : Nat} (h : Lob own w os Cs c) (hg : w.grownBy w' row) (ho : ∀ g, g < w.heap.size → own' g = own g) (hr : ∀ g, row = some g → own g = t) (hc : ∀ j, c ≤ j → t ≠ 10 + j) : Lob own' w' os Cs c :=
  ⟨fun j v hj hv => (h.kr j v hj hv).blk (fun g hgb => hg.block g ((h.kr j v hj hv).lt g hgb).2 (fun e => hc j hj ((hr g e.symm).symm.trans (h.tk j v g hj hv hgb)))), fun j v g hj hv hgb => (ho g ((h.kr j v hj hv).lt g hgb).2).trans (h.tk j v g hj hv hgb)⟩
theorem Lob.store (h : Lob own w os Cs 0) {j k g n cap : Nat} (hj : os[j]? = some (.slice (some ⟨g, 0, none⟩) n cap)) (x : Int) :
    Lob own (w.setCell ⟨g, k, none⟩ (.int .u8 x)) os (fun q => if q = j then (Cs j).set k x else Cs q) 0 := by
  refine ⟨fun q v hq hv => ?_, h.tk⟩
  by_cases e : q = j
  · subst e
    rw [hj] at hv
    cases hv
    show BOwn _ _ _ (if q = q then _ else _)
    rw [if_pos rfl]
    exact (h.kr q _ hq hj).put k x
  · show BOwn _ _ _ (if q = j then _ else _)
    rw [if_neg e]
    exact (h.kr q v hq hv).blk (fun g' hg' => heap_setCell_other _ _ _ _ (fun e2 => by
      have h1 := h.tk q v g' hq hv hg'
      have h2 := h.tk j _ g (Nat.zero_le _) hj rfl
      rw [show g' = g from e2] at h1
      omega))
theorem Lob.next (h : Lob own w os Cs c) : Lob own w os Cs (c + 1) := ⟨fun j v hj => h.kr j v (by omega), fun j v g hj => h.tk j v g (by omega)⟩
end
/-- The row of what has grown, two entries each. -/
structure Gab (own : Nat → Nat) (w : World) (vL : Value) (VL : List Value) (len : Nat → Nat) : Prop where
  vl : w.ownsRow 0 34 1 vL VL.length VL
  tvl : ∀ g, vL.ownBlock = some g → own g = 5
  kr : ∀ (j : Nat) v, VL[j]? = some v → BOwn w 0 v (mkB (j / 2) (len (j / 2) + 4 * (j % 2)))
  tk : ∀ (j : Nat) v g, VL[j]? = some v → v.ownBlock = some g → own g = 10 + j / 2
section
variable {own own' : Nat → Nat} {w w' : World} {vL : Value} {VL : List Value} {len : Nat → Nat}
theorem Gab.keep {row : Option Nat} {t : Nat} (h : Gab own w vL VL len) (hg : w.grownBy w' row) (ho : ∀ g, g < w.heap.size → own' g = own g) (hr : ∀ g, row = some g → own g = t) (h5 : t ≠ 5) (hc : ∀ j, j < VL.length → t ≠ 10 + j / 2) : Gab own' w' vL VL len :=
  ⟨C.own_blk2 h.vl (fun g hgb => hg.block g (World.ownsRow.lt h.vl g hgb).2 (fun e => h5 ((hr g e.symm).symm.trans (h.tvl g hgb)))), fun g hgb => (ho g (World.ownsRow.lt h.vl g hgb).2).trans (h.tvl g hgb),
    fun j v hv => (h.kr j v hv).blk (fun g hgb => hg.block g ((h.kr j v hv).lt g hgb).2 (fun e => hc j (List.getElem?_eq_some_iff.mp hv).1 ((hr g e.symm).symm.trans (h.tk j v g hv hgb)))), fun j v g hv hgb => (ho g ((h.kr j v hv).lt g hgb).2).trans (h.tk j v g hv hgb)⟩
theorem Gab.push {w6 : World} {v6 u0 u : Value} {i : Nat} (h : Gab own w vL VL len) (hi : VL.length = 2 * i) (hg : w.grownBy w6 vL.ownBlock) (hv6 : w6.ownsRow 0 34 1 v6 (VL.length + 2) (VL ++ [u0, u])) (hl6 : v6.ownBlock = vL.ownBlock ∨ ∃ g, v6.ownBlock = some g ∧ w.heap.size ≤ g)
    (hu0 : BOwn w 0 u0 (mkB i (len i))) (ht0 : ∀ g, u0.ownBlock = some g → own g = 10 + i) (hu : BOwn w 0 u (mkB i (len i + 4))) (ht : ∀ g, u.ownBlock = some g → own g = 10 + i) : Gab (fun g => if g < w.heap.size then own g else 5) w6 v6 (VL ++ [u0, u]) len := by
  have ho : ∀ g, g < w.heap.size → (if g < w.heap.size then own g else 5) = own g := fun g hg => if_pos hg
  have key : ∀ (j : Nat) v, (VL ++ [u0, u])[j]? = some v → BOwn w 0 v (mkB (j / 2) (len (j / 2) + 4 * (j % 2))) ∧ ∀ g, v.ownBlock = some g → own g = 10 + j / 2 := fun j v hv => by
    rcases Nat.lt_or_ge j VL.length with q | q
    · rw [List.getElem?_append_left q] at hv
      exact ⟨h.kr j v hv, fun g => h.tk j v g hv⟩
    · rw [List.getElem?_append_right q] at hv
      have hlt := (List.getElem?_eq_some_iff.mp hv).1
      simp at hlt
      rcases (by omega : j - VL.length = 0 ∨ j - VL.length = 1) with e | e
      · rw [e] at hv
        simp at hv
        subst hv
        rw [show j / 2 = i by omega, show j % 2 = 0 by omega]
        exact ⟨by simpa using hu0, ht0⟩
      · rw [e] at hv
        simp at hv
        subst hv
        rw [show j / 2 = i by omega, show j % 2 = 1 by omega]
        exact ⟨by simpa using hu, ht⟩
  refine ⟨by rw [List.length_append]; exact hv6, fun g hgb => ?_, fun j v hv => ?_, fun j v g hv hgb => ?_⟩
  · show (if g < w.heap.size then own g else 5) = 5
    rcases hl6 with q | ⟨g', q, q2⟩
    · rw [ho g (World.ownsRow.lt h.vl g (q ▸ hgb)).2]; exact h.tvl g (q ▸ hgb)
    · have e2 : g' = g := Option.some.inj (q.symm.trans hgb)
      rw [if_neg (by omega)]
  · obtain ⟨k1, k2⟩ := key j v hv
    exact k1.blk (fun g hgb => hg.block g (k1.lt g hgb).2 (fun e => by have := h.tvl g e.symm; have := k2 g hgb; omega))
  · obtain ⟨k1, k2⟩ := key j v hv
    exact (ho g (k1.lt g hgb).2).trans (k2 g hgb)
end
theorem Gab.drewN {own : Nat → Nat} {w : World} {vL : Value} {VL : List Value} {len : Nat → Nat} (h : Gab own w vL VL len) (n : Nat) : Gab own (w.drewN n) vL VL len := ⟨h.vl, h.tvl, h.kr, h.tk⟩
theorem Lob.drewN {own : Nat → Nat} {w : World} {os : List Value} {Cs : Nat → List Int} {c : Nat} (h : Lob own w os Cs c) (n : Nat) : Lob own (w.drewN n) os Cs c := ⟨h.kr, h.tk⟩
theorem kt_drewN {own : Nat → Nat} {w w' : World} (h : C.Kt own w w') (n : Nat) : C.Kt own w (w'.drewN n) := ⟨h.os, h.tape, h.output, h.size, h.block⟩
theorem cell_set1 {w : World} {g i b o : Nat} {x : Value} (hb : b ≠ g) : (w.setCell ⟨g, i, none⟩ x).cell? ⟨b, o, none⟩ = w.cell? ⟨b, o, none⟩ := by
  simp only [World.cell?]
  rw [heap_setCell_other _ _ _ _ (by simpa using hb)]
theorem ob_rows : (Tryd.prog.info? 34).map (fun i => (i.zero, i.size, i.bytes)) = some (some (.slice none 0 0), 1, 24) := by kernel_rfl
theorem two_new2 (w : World) (a b : Value) (t : TypeId) : ∀ j u, [a, b][j]? = some u → (w.alloc (.cells #[a, b] t)).cell? ((⟨w.heap.size, 0, none⟩ : Addr).add j) = some u := cell_two_new w a b t

set_option maxHeartbeats 32000000 in
set_option maxRecDepth 100000 in
/-- OWNED BYTES: rows of bytes in blocks of their own, any. -/
theorem ownedBytes_any (al : Option Addr) (cl : Nat) (own : Nat → Nat) (os : List Value) (C0 : Nat → List Int) (w : World) (hLo : Lob own w os C0 0) (hNm : C.Nam own w al os) (hn : os.length ≤ 33554432) (hlc : ∀ j, (C0 j).length ≤ 1048600) :
    Calls Tryd.prog 49 #[.slice al os.length cl] w fun e w' => e = .returned (.bool true) ∧ C.Kt own w w' := by
  obtain ⟨m, hm⟩ : ∃ m, os.length = m := ⟨_, rfl⟩
  have HM : Hid (os.length = m) := hm
  have HNm : Hid (C.Nam own w al os) := hNm
  have HLo0 : Hid (Lob own w os C0 0) := hLo
  rw [hm] at hn ⊢
  obtain ⟨len, hlen⟩ : ∃ f : Nat → Nat, (fun j => (C0 j).length) = f := ⟨_, rfl⟩
  have HLen : Hid (∀ j, (C0 j).length = len j) := fun j => by rw [← hlen]
  have HLb : Hid (∀ j, len j ≤ 1048600) := fun j => by rw [← hlen]; exact hlc j
  obtain ⟨i1, hi1, hy0, hy1, hy2⟩ := info_parts ob_rows
  obtain ⟨i0, hi0, hz0, hz1, hz2⟩ := info_parts Tryd.info_u8
  clear hLo hNm hm hlen hlc
  go_enter Tryd.func49, Tryd.ntmps49
  go_wp2
  go_loopw [3] (fun v wr => ∃ (j : Nat) (Cs : Nat → List Int), v = .int .i64 j ∧ j ≤ m ∧ Lob own wr os Cs 0 ∧ (∀ q, (Cs q).length = len q) ∧ (∀ q, q < j → Cs q = mkB q (len q)) ∧ C.Kt own w wr) (fun v _ => m - (intOf v).toNat)
  case atStart => exact ⟨0, C0, rfl, by omega, HLo0.out, HLen.out, fun q hq => by omega, C.Kt.refl _ _⟩
  case round =>
    clear HLo0
    obtain ⟨j, Cs, rfl, hj, hLo, hCl, hCm, hK⟩ := hrel
    have HLo : Hid (Lob own wr os Cs 0) := hLo
    have HCl : Hid (∀ q, (Cs q).length = len q) := hCl
    have HCm : Hid (∀ q, q < j → Cs q = mkB q (len q)) := hCm
    have HK : Hid (C.Kt own w wr) := hK
    clear hLo hCl hCm hK
    by_cases hjm : j = m
    · subst hjm
      have hz : ¬ (j : Int) < (j : Int) := by omega
      have HL1 : Hid (Lob own wr os (fun q => mkB q (len q)) 0) := by
        refine ⟨fun q v hq hv => ?_, HLo.out.tk⟩
        have := HLo.out.kr q v hq hv
        rw [HCm.out q (by have := (List.getElem?_eq_some_iff.mp hv).1; have := HM.out; omega)] at this
        exact this
      clear HLo HCl HCm
      go_wp2
      go_loopw [5, 6] (fun v5 v6 wr => ∃ (i : Nat) (VL : List Value) (own4 : Nat → Nat), v6 = .int .i64 i ∧ i ≤ j ∧ VL.length = 2 * i ∧ Lob own4 wr os (fun q => mkB q (len q)) i ∧ Gab own4 wr v5 VL len ∧ C.Kt own w wr ∧ (∀ g, g < w.heap.size → own4 g = own g)) (fun _ v _ => j - (intOf v).toNat)
      case atStart => exact ⟨0, [], own, rfl, by omega, rfl, HL1.out, ⟨World.ownsRow_nil _ _ _ _, fun g hg => by simp [Value.ownBlock] at hg, fun q v hv => by simp at hv, fun q v g hv => by simp at hv⟩, HK.out, fun _ _ => rfl⟩
      case round =>
        clear HL1 HK
        obtain ⟨i, VL, own4, rfl, hi, hVl, hLo, hGa, hK, ho4⟩ := hrel
        have HVl : Hid (VL.length = 2 * i) := hVl
        obtain ⟨aL, cL, hu5⟩ := C.own_shape hGa.vl
        obtain ⟨nL, hnL⟩ : ∃ n, 2 * i = n := ⟨_, rfl⟩
        rw [hVl, hnL] at hu5
        have HnL : Hid (2 * i = nL) := hnL
        have hnL2 : nL ≤ 67108864 := by omega
        subst hu5
        have HLo : Hid (Lob own4 wr os (fun q => mkB q (len q)) i) := hLo
        have HGa : Hid (Gab own4 wr (.slice aL nL cL) VL len) := hGa
        have HK : Hid (C.Kt own w wr) := hK
        have HO4 : Hid (∀ g, g < w.heap.size → own4 g = own g) := ho4
        clear hVl hLo hGa hK ho4 hnL
        by_cases hij : i = j
        · subst hij
          have hzz : ¬ (i : Int) < (i : Int) := by omega
          obtain ⟨Z, hZ⟩ : ∃ Z, wr = Z := ⟨_, rfl⟩
          rw [hZ] at HGa HK ⊢
          clear hZ HLo
          go_wp2
          go_loopw [9] (fun v9 wr => ∃ p nd : Nat, v9 = .int .i64 p ∧ p ≤ nL ∧ wr = Z.drewN nd) (fun v _ => nL - (intOf v).toNat)
          case atStart => exact ⟨0, 0, rfl, by omega, rfl⟩
          case round =>
            obtain ⟨p, nd0, rfl, hp, hwr⟩ := hrel
            have HW : Hid (wr = Z.drewN nd0) := hwr
            have HGw : Hid (Gab own4 wr (.slice aL nL cL) VL len) := by show Gab _ _ _ _ _; rw [hwr]; exact HGa.out.drewN _
            have HKw : Hid (C.Kt own w wr) := by show C.Kt _ _ _; rw [hwr]; exact kt_drewN HK.out _
            clear hwr
            by_cases hpm : p = nL
            · subst hpm
              have hz8 : ¬ (p : Int) < (p : Int) := by omega
              go_wp2
              go_ret
              exact ⟨rfl, HKw.out⟩
            · have hz8 : (p : Int) < (nL : Int) := by omega
              have hwp : IntKind.i64.wrap ((p : Int) + 1) = (p : Int) + 1 := by rw [IntKind.wrap_i64]; omega
              have hdv : (p : Int).tdiv 2 = ((p / 2 : Nat) : Int) := rfl
              obtain ⟨u, hu⟩ : ∃ v, VL[p]? = some v := ⟨_, List.getElem?_eq_getElem (by rw [HVl.out, HnL.out]; omega)⟩
              have hkr := HGw.out.kr p u hu
              obtain ⟨gL, cL', eL⟩ := C.own_some HGw.out.vl (by rw [HVl.out, HnL.out]; omega)
              obtain ⟨rfl, hmm, rfl⟩ : aL = some ⟨gL, 0, none⟩ ∧ nL = VL.length ∧ cL = cL' := by simpa using eL
              have HE8 : Hid (∀ nd, (Z.drewN nd).cell? ⟨gL, p, none⟩ = some u) := fun nd => by
                have h7 := HGa.out.vl
                rw [HVl.out, HnL.out] at h7
                exact (World.ownsRow.cellAt h7 p (by omega)).trans hu
              have e8 : wr.cell? ⟨gL, p, none⟩ = some u := by rw [HW.out]; exact HE8.out nd0
              obtain ⟨a8, c8, rfl⟩ := hkr.shape
              obtain ⟨n, hnn⟩ : ∃ n, (mkB (p / 2) (len (p / 2) + 4 * (p % 2))).length = n := ⟨_, rfl⟩
              have hnb : n ≤ 1048604 := by rw [← hnn, mkB_len]; have := HLb.out (p / 2); omega
              rw [hnn] at e8 HE8 hkr
              have HKr : Hid (∀ nd, BOwn (Z.drewN nd) 0 (.slice a8 n c8) (mkB (p / 2) (len (p / 2) + 4 * (p % 2)))) := fun nd => by have h := hkr; rw [HW.out] at h; exact h
              have HNn : Hid (len (p / 2) + 4 * (p % 2) = n) := by show _ = _; rw [← hnn, mkB_len]
              clear hu hkr eL hmm hnn
              go_wp2
              go_loopw [10] (fun v10 wr' => ∃ q nd : Nat, v10 = .int .i64 q ∧ q ≤ n ∧ wr' = Z.drewN nd) (fun v _ => n - (intOf v).toNat)
              case atStart => exact ⟨0, nd0, rfl, by omega, HW.out⟩
              case round =>
                clear HW HGw HKw e8
                obtain ⟨q, nd1, rfl, hq, hwr⟩ := hrel
                have e8 : wr.cell? ⟨gL, p, none⟩ = some (.slice a8 n c8) := by rw [hwr]; exact HE8.out nd1
                have HWr : Hid (wr = Z.drewN nd1) := hwr
                by_cases hqn : q = n
                · subst hqn
                  have hz9 : ¬ (q : Int) < (q : Int) := by omega
                  clear hwr
                  go_wp2
                  exact ⟨⟨p + 1, nd1, by simp, by omega, HWr.out⟩, by simp [intOf]; omega⟩
                · have hz9 : (q : Int) < (n : Int) := by omega
                  have hwq : IntKind.i64.wrap ((q : Int) + 1) = (q : Int) + 1 := by rw [IntKind.wrap_i64]; omega
                  have hkr := HKr.out nd1
                  rw [← hwr] at hkr
                  obtain ⟨g9, c9, e9⟩ := hkr.some' (by rw [mkB_len, HNn.out]; omega)
                  obtain ⟨rfl, hmm, rfl⟩ : a8 = some ⟨g9, 0, none⟩ ∧ n = (mkB (p / 2) (len (p / 2) + 4 * (p % 2))).length ∧ c8 = c9 := by simpa using e9
                  obtain ⟨t0, _⟩ := hkr.cell (k := q) (x := mB ((p / 2 : Nat) : Int) (q : Int)) (mkB_at (by rw [HNn.out]; omega))
                  have hMb := fun V => markByte_any ((p / 2 : Nat) : Int) (q : Int) V
                  generalize mB ((p / 2 : Nat) : Int) (q : Int) = mb at *
                  have e0 : (mb != mb) = false := by simp
                  clear e9 hmm hkr hwr
                  go_wp2_with fail
                  go_quiet (first | (go_at_call 63; refine Calls.quiet_of_same (hMb _)))
                  go_wp2
                  exact ⟨⟨q + 1, nd1 + nq, by simp, by omega, by rw [HWr.out]; exact World.drewN_drewN _ _ _⟩, by simp [intOf]; omega⟩
        · have hzz : (i : Int) < (j : Int) := by omega
          have hwi : IntKind.i64.wrap ((i : Int) + 1) = (i : Int) + 1 := by rw [IntKind.wrap_i64]; omega
          obtain ⟨vi, hvi⟩ : ∃ v, os[i]? = some v := ⟨_, List.getElem?_eq_getElem (by rw [HM.out]; omega)⟩
          have hkr := HLo.out.kr i vi (Nat.le_refl _) hvi
          have htk := fun g => HLo.out.tk i vi g (Nat.le_refl _) hvi
          obtain ⟨ai, ci, rfl⟩ := hkr.shape
          obtain ⟨gl, off, rfl, e6⟩ := HNm.out.at HK.out hvi
          obtain ⟨ni, hni⟩ : ∃ n, len i = n := ⟨_, rfl⟩
          have hnb : ni ≤ 1048600 := by rw [← hni]; exact HLb.out i
          rw [mkB_len, hni] at hkr htk e6 hvi
          have HNi : Hid (len i = ni) := hni
          have HVi : Hid (os[i]? = some (.slice ai ni ci)) := hvi
          have HKr : Hid (BOwn wr 0 (.slice ai ni ci) (mkB i ni)) := hkr
          have HTi : Hid (∀ g, (Value.slice ai ni ci).ownBlock = some g → own4 g = 10 + i) := htk
          have HLn : Hid (Lob own4 wr os (fun q => mkB q (len q)) (i + 1)) := HLo.out.next
          clear HLo hkr htk hvi hni
          go_wp2
          clear e6
          go_loopw [7, 8] (fun v7 v8 wr => ∃ (k : Nat) (own5 : Nat → Nat), v8 = .int .i64 k ∧ k ≤ 4 ∧ Lob own5 wr os (fun q => mkB q (len q)) (i + 1) ∧ Gab own5 wr (.slice aL nL cL) VL len ∧ (BOwn wr 0 (.slice ai ni ci) (mkB i ni) ∧ ∀ g, (Value.slice ai ni ci).ownBlock = some g → own5 g = 10 + i) ∧ BOwn wr 0 v7 (mkB i (ni + k)) ∧ (∀ g, v7.ownBlock = some g → own5 g = 10 + i) ∧ C.Kt own w wr ∧ (∀ g, g < w.heap.size → own5 g = own g)) (fun _ v _ => 4 - (intOf v).toNat)
          case atStart => exact ⟨0, own4, rfl, by omega, HLn.out, HGa.out, ⟨HKr.out, HTi.out⟩, HKr.out, HTi.out, HK.out, HO4.out⟩
          case round =>
            clear HLn HKr HTi HGa HK HO4
            obtain ⟨k, own5, rfl, hk, hLo, hGa, hI, hS7, hT7, hK, ho5⟩ := hrel
            obtain ⟨a7, c7, hu7⟩ := hS7.shape
            obtain ⟨n7, hn7⟩ : ∃ n, ni + k = n := ⟨_, rfl⟩
            rw [mkB_len, hn7] at hu7
            subst hu7
            have HN7 : Hid (ni + k = n7 ∧ n7 ≤ 1048604 ∧ (mkB i (ni + k)).length = n7) := ⟨hn7, by omega, by rw [mkB_len]; exact hn7⟩
            have HLo : Hid (Lob own5 wr os (fun q => mkB q (len q)) (i + 1)) := hLo
            have HGa : Hid (Gab own5 wr (.slice aL nL cL) VL len) := hGa
            have HI : Hid (BOwn wr 0 (.slice ai ni ci) (mkB i ni) ∧ ∀ g, (Value.slice ai ni ci).ownBlock = some g → own5 g = 10 + i) := hI
            have HS7 : Hid (BOwn wr 0 (.slice a7 n7 c7) (mkB i (ni + k))) := hS7
            have HT7 : Hid (∀ g, (Value.slice a7 n7 c7).ownBlock = some g → own5 g = 10 + i) := hT7
            have HK : Hid (C.Kt own w wr) := hK
            have HO5 : Hid (∀ g, g < w.heap.size → own5 g = own g) := ho5
            clear hLo hGa hI hS7 hT7 hK ho5 hn7
            by_cases hk4 : k = 4
            · subst hk4
              obtain ⟨gl', off', he, e6⟩ := HNm.out.at HK.out HVi.out
              cases he
              go_wp2_with (first
                | (at_builtin; refine wpList_append_own_at _ rfl _ _ 51 rfl 0 34 i1 (.slice none 0 0) 1 24 Tryd.underlying51 hi1 hy0 hy1 hy2 rfl (by decide) (.slice aL nL cL) VL.length VL rfl (World.ownsRow.alloc HGa.out.vl _) ⟨wr.heap.size, 0, none⟩ 2 2 [.slice ai ni ci, .slice a7 n7 c7] rfl rfl (two_new2 _ _ _ _) (by simp [Value.oneCell']) (by unfold maxLen; have := HVl.out; omega) (by have := HVl.out; omega) (by simp) ?_
                   intro v6 w6 hown6 hgrow6 hnil6 hat6; clear hnil6
                   have HG6 : Hid (wr.grownBy w6 (Value.slice aL nL cL).ownBlock) := (World.grownBy_alloc wr _ _).trans hgrow6
                   have HO6 : Hid (w6.ownsRow 0 34 1 v6 (VL.length + 2) (VL ++ [.slice ai ni ci, .slice a7 n7 c7])) := hown6
                   have HA6 : Hid (v6.ownBlock = (Value.slice aL nL cL).ownBlock ∨ ∃ g, v6.ownBlock = some g ∧ wr.heap.size ≤ g) := hat6.imp id (fun e => ⟨_, e, by simp⟩)
                   clear hown6 hgrow6 hat6)
                | go_in)
              have ho6 : ∀ g, g < wr.heap.size → (if g < wr.heap.size then own5 g else 5) = own5 g := fun g hg => if_pos hg
              have hpu := HGa.out.push (i := i) HVl.out HG6.out HO6.out HA6.out (by rw [HNi.out]; exact HI.out.1) HI.out.2 (by rw [HNi.out]; exact HS7.out) HT7.out
              exact ⟨⟨i + 1, _, _, by simp, by omega, by rw [List.length_append, HVl.out]; simp; omega, HLo.out.keep HG6.out ho6 (fun g hg => HGa.out.tvl g hg) (fun q hq => by omega), hpu, HK.out.grown HG6.out (fun g hg hgl => by rw [← HO5.out g hgl, HGa.out.tvl g hg]; omega), fun g hg => (ho6 g (Nat.lt_of_lt_of_le hg HK.out.size)).trans (HO5.out g hg)⟩, by simp [intOf]; omega⟩
            · have hz4 : (k : Int) < 4 := by omega
              have hwk : IntKind.i64.wrap ((k : Int) + 1) = (k : Int) + 1 := by rw [IntKind.wrap_i64]; omega
              have hMb := fun V => markByte_any (i : Int) (n7 : Int) V
              have HMb : Hid (mkB i (ni + (k + 1)) = mkB i (ni + k) ++ [mB (i : Int) (n7 : Int)]) := by show _ = _; rw [← Nat.add_assoc, mkB_succ, HN7.out.1]
              generalize mB (i : Int) (n7 : Int) = mb at *
              go_wp2_with fail
              refine (hMb _).mono ?_
              rintro e w5 ⟨rfl, hw5⟩
              subst hw5
              clear hMb
              go_wp2_with (first
                | (at_builtin; refine append_b _ rfl _ _ 34 rfl 5 i0 (.int .u8 0) 1 Tryd.underlying34 hi0 hz0 hz1 hz2 rfl (.slice a7 n7 c7) (mkB i (ni + k)).length ((mkB i (ni + k)).map (Value.int .u8)) rfl (World.ownsRow.alloc HS7.out _) ⟨w5.heap.size, 0, none⟩ 1 (.int .u8 mb) rfl (C.one_new5 _ _ _) rfl (by have := HN7.out; omega) (by unfold maxLen; have := HN7.out; omega) ?_
                   intro v6 w6 hown6 hgrow6 hat6 hps6
                   have HG6 : Hid (w5.grownBy w6 (Value.slice a7 n7 c7).ownBlock) := (World.grownBy_alloc w5 _ _).trans hgrow6
                   have HO6 : Hid (BOwn w6 0 v6 (mkB i (ni + k) ++ [mb])) := (by show BOwn _ _ _ _; unfold BOwn; rw [List.length_append, List.map_append]; exact hown6)
                   have HA6 : Hid (v6.ownBlock = (Value.slice a7 n7 c7).ownBlock ∨ ∃ g, v6.ownBlock = some g ∧ w5.heap.size ≤ g) := hat6.imp id (fun ⟨g, e, e2⟩ => ⟨g, e, Nat.le_trans (by simp) e2⟩)
                   have HI6 : Hid (BOwn w6 0 (.slice ai ni ci) (mkB i ni)) := (hps6 _ _ _ (World.ownsRow.alloc HI.out.1 _) (fun g _ _ => ⟨by rw [← List.map_take, mkB_len, mkB_take], by rw [mkB_len, mkB_len]; omega⟩))
                   clear hown6 hgrow6 hat6 hps6)
                | go_in)
              have ho6 : ∀ g, g < w5.heap.size → (if g < w5.heap.size then own5 g else 10 + i) = own5 g := fun g hg => if_pos hg
              refine ⟨⟨k + 1, fun g => if g < w5.heap.size then own5 g else 10 + i, by simp, by omega, HLo.out.keep HG6.out ho6 (fun g hg => HT7.out g hg) (fun q hq => by omega), HGa.out.keep HG6.out ho6 (fun g hg => HT7.out g hg) (by omega) (fun q hq => by have := HVl.out; omega), ⟨HI6.out, fun g hg => (ho6 g (HI.out.1.lt g hg).2).trans (HI.out.2 g hg)⟩, ?_, fun g hg => ?_, HK.out.grown HG6.out (fun g hg hgl => by rw [← HO5.out g hgl, HT7.out g hg]; omega), fun g hg => (ho6 g (Nat.lt_of_lt_of_le hg HK.out.size)).trans (HO5.out g hg)⟩, by simp [intOf]; omega⟩
              · rw [HMb.out]; exact HO6.out
              · show (if g < w5.heap.size then own5 g else 10 + i) = 10 + i
                rcases HA6.out with q | ⟨g', q, q2⟩
                · rw [if_pos (HS7.out.lt g (q ▸ hg)).2]; exact HT7.out g (q ▸ hg)
                · have e2 : g' = g := Option.some.inj (q.symm.trans hg)
                  rw [if_neg (by omega)]
    · have hz : (j : Int) < (m : Int) := by omega
      have hwj : IntKind.i64.wrap ((j : Int) + 1) = (j : Int) + 1 := by rw [IntKind.wrap_i64]; omega
      obtain ⟨vj, hvj⟩ : ∃ v, os[j]? = some v := ⟨_, List.getElem?_eq_getElem (by rw [HM.out]; omega)⟩
      obtain ⟨aj, cj, rfl⟩ := (HLo.out.kr j vj (Nat.zero_le _) hvj).shape
      obtain ⟨nj, hnj⟩ : ∃ n, len j = n := ⟨_, rfl⟩
      have HNj : Hid (len j = nj) := hnj
      have hnb : nj ≤ 1048600 := by rw [← hnj]; exact HLb.out j
      rw [HCl.out j, hnj] at hvj
      have HVj : Hid (os[j]? = some (.slice aj nj cj)) := hvj
      clear hvj hnj
      go_wp2
      go_loopw [4] (fun v4 wr => ∃ (k : Nat) (Cs : Nat → List Int), v4 = .int .i64 k ∧ k ≤ nj ∧ Lob own wr os Cs 0 ∧ (∀ q, (Cs q).length = len q) ∧ (∀ q, q < j → Cs q = mkB q (len q)) ∧ (∀ q : Nat, q < k → (Cs j)[q]? = some (mB (j : Int) (q : Int))) ∧ C.Kt own w wr) (fun v _ => nj - (intOf v).toNat)
      case atStart => exact ⟨0, Cs, rfl, by omega, HLo.out, HCl.out, HCm.out, fun q hq => by omega, HK.out⟩
      case round =>
        clear HLo HCl HCm HK
        obtain ⟨k, Cs2, rfl, hk, hLo, hCl, hCm, hCk, hK⟩ := hrel
        have HLo : Hid (Lob own wr os Cs2 0) := hLo
        have HCl : Hid (∀ q, (Cs2 q).length = len q) := hCl
        have HCm : Hid (∀ q, q < j → Cs2 q = mkB q (len q)) := hCm
        have HCk : Hid (∀ q : Nat, q < k → (Cs2 j)[q]? = some (mB (j : Int) (q : Int))) := hCk
        have HK : Hid (C.Kt own w wr) := hK
        obtain ⟨gl, off, rfl, e6⟩ := HNm.out.at hK HVj.out
        have HGl : Hid (own gl = 0) := by
          rcases HNm.out with h | ⟨gl', off', he, h0, _⟩
          · have := HVj.out; rw [h] at this; simp at this
          · cases he; exact h0
        clear hLo hCl hCm hCk hK
        by_cases hkn : k = nj
        · subst hkn
          have hz2 : ¬ (k : Int) < (k : Int) := by omega
          go_wp2
          refine ⟨⟨j + 1, Cs2, by simp, by omega, HLo.out, HCl.out, fun q hq => ?_, HK.out⟩, by simp [intOf]; omega⟩
          by_cases e : q = j
          · subst e
            rw [HNj.out]
            exact all_mkB (by rw [HCl.out q, HNj.out]) HCk.out
          · exact HCm.out q (by omega)
        · have hz2' : (k : Int) < (nj : Int) := by omega
          have hwk : IntKind.i64.wrap ((k : Int) + 1) = (k : Int) + 1 := by rw [IntKind.wrap_i64]; omega
          have hkr := HLo.out.kr j _ (Nat.zero_le _) HVj.out
          obtain ⟨gj, capj, ej⟩ := hkr.some' (by rw [HCl.out j, HNj.out]; omega)
          obtain ⟨rfl, hmm, rfl⟩ : aj = some ⟨gj, 0, none⟩ ∧ nj = (Cs2 j).length ∧ cj = capj := by simpa using ej
          obtain ⟨y1, hy⟩ : ∃ y, (Cs2 j)[k]? = some y := ⟨_, List.getElem?_eq_getElem (by omega)⟩
          obtain ⟨t0, f0⟩ := hkr.cell hy
          have hgt : own gj = 10 + j := HLo.out.tk j _ gj (Nat.zero_le _) HVj.out rfl
          have HNe : Hid (gl ≠ gj) := fun e => by have := HGl.out; rw [e] at this; omega
          have hMb := fun V => markByte_any (j : Int) (k : Int) V
          obtain ⟨mb, hmb⟩ : ∃ x, mB (j : Int) (k : Int) = x := ⟨_, rfl⟩
          have HMb : Hid (mB (j : Int) (k : Int) = mb) := hmb
          rw [hmb] at hMb
          have HNew : Hid (∀ nd, Lob own ((wr.drewN nd).setCell ⟨gj, k, none⟩ (.int .u8 mb)) os (fun q => if q = j then (Cs2 j).set k mb else Cs2 q) 0) := fun nd => (HLo.out.drewN nd).store (k := k) HVj.out mb
          have HK2 : Hid (∀ nd, C.Kt own w ((wr.drewN nd).setCell ⟨gj, k, none⟩ (.int .u8 mb))) := fun nd => (kt_drewN HK.out nd).grown (row := some gj) (grown_set _ _ _ _) (fun g hg _ => by cases hg; rw [hgt]; omega)
          clear hkr ej hmm hy hgt hmb
          go_wp2_with fail
          go_region_held3 (fun V => V.cell? ⟨gl, off + j, none⟩ = some (.slice (some ⟨gj, 0, none⟩) nj cj))
            (first | exact e6 | exact (cell_set1 HNe.out).trans e6)
            (first
              | (go_at_call 63
                 refine (hMb _).mono ?_
                 rintro e v1 ⟨rfl, hv1⟩
                 subst hv1))
          all_goals (
            go_wp2
            refine ⟨⟨k + 1, _, by simp, by omega, HNew.out 1, fun q => ?_, fun q hq => ?_, fun q hq => ?_, HK2.out 1⟩, by simp [intOf]; omega⟩
            · by_cases e : q = j
              · subst e; rw [if_pos rfl, List.length_set]; exact HCl.out q
              · rw [if_neg e]; exact HCl.out q
            · rw [if_neg (by omega)]; exact HCm.out q hq
            · rw [if_pos rfl, List.getElem?_set]
              by_cases e : k = q
              · rw [if_pos e, if_pos (by rw [HCl.out j, HNj.out]; omega), ← e, HMb.out]
              · rw [if_neg e]; exact HCk.out q (by omega))

end Go.Proofs.YtdfdaambfihjaaaDoor
