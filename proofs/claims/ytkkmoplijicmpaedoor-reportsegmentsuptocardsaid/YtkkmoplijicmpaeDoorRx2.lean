import Derived.Test.YtkkmoplijicmpaeDoorRx2A
import Derived.Test.YtkkmoplijicmpaeDoorRx2B
import Derived.Test.YtkkmoplijicmpaeDoorRx2D
import Derived.Test.YtkkmoplijicmpaeDoorRx2F
import Derived.Test.YtkkmoplijicmpaeDoorRx3
import Derived.Test.YtkkmoplijicmpaeDoorRx3B
import Derived.Test.YtkkmoplijicmpaeDoorRx3D
import Derived.Test.YtkkmoplijicmpaeDoorRx3F
import Derived.Test.YtkkmoplijicmpaeDoorRpS5
import Derived.ArgAppend
import Derived.Maps.AppendAt
import Derived.Deep.RegionHeld3
import Derived.BigQuiet
namespace Go.Proofs.YtkkmoplijicmpaeDoor
open Go.RowKit
set_option linter.unusedVariables false
set_option linter.unusedSimpArgs false

theorem rqFields_any (s : Sg) (hv tv dv cv : Value) (hx tx : List Xr) (w : World) (hs : SIn w s hv tv dv cv hx tx) (hk : shp s.typ % 2 = 1) :
    Calls Tryd.prog 99 #[.agg (svC s hv tv dv cv)] w fun e w' => e = .returned (.bool (may (shp s.typ) s hx tx)) ∧ Below w.heap.size w w' := by
  obtain ⟨ah, ch, rfl, _⟩ := hs.head.shape
  obtain ⟨at2, ct, rfl, _⟩ := hs.tail.shape
  obtain ⟨ad, cd, rfl, _⟩ := hs.data.shape
  obtain ⟨ac, cc, rfl, _⟩ := hs.clm.shape
  rcases typ_of hk with ⟨e, h⟩ | ⟨e, h⟩ | ⟨e, h⟩ | ⟨e, h⟩ | ⟨e, h⟩ | ⟨e, h⟩
  · rw [e]; exact rqF_3 s _ _ _ _ _ _ _ _ _ _ _ _ hx tx w hs rfl rfl h
  · rw [e]; exact rqF_7 s _ _ _ _ _ _ _ _ _ _ _ _ hx tx w hs rfl rfl h
  · rw [e]; exact rqF_9 s _ _ _ _ _ _ _ _ _ _ _ _ hx tx w hs rfl rfl h
  · rw [e]; exact rqF_17 s _ _ _ _ _ _ _ _ _ _ _ _ hx tx w hs rfl rfl h
  · rcases h with h | h
    · rw [e]; exact rqF_33a s _ _ _ _ _ _ _ _ _ _ _ _ hx tx w hs rfl rfl h
    · rw [e]; exact rqF_33b s _ _ _ _ _ _ _ _ _ _ _ _ hx tx w hs rfl rfl h
  · rw [e]; exact rqF_1 s _ _ _ _ _ _ _ _ _ _ _ _ hx tx w hs rfl rfl h

end Go.Proofs.YtkkmoplijicmpaeDoor

namespace Go.Proofs.YtkkmoplijicmpaeDoor
open Go.RowKit
set_option linter.unusedVariables false
set_option linter.unusedSimpArgs false

theorem rqLay_any (s : Sg) (hv tv dv cv : Value) (hx tx : List Xr) (w : World) (hs : SIn w s hv tv dv cv hx tx) (hk : shp s.typ % 2 = 1) (hw : Wr (shp s.typ) s hx tx) :
    Calls Tryd.prog 100 #[.agg (svC s hv tv dv cv)] w (FormP (layB (shp s.typ) s) w) := by
  obtain ⟨ah, ch, rfl, _⟩ := hs.head.shape
  obtain ⟨at2, ct, rfl, _⟩ := hs.tail.shape
  obtain ⟨ad, cd, rfl, _⟩ := hs.data.shape
  obtain ⟨ac, cc, rfl, _⟩ := hs.clm.shape
  rcases typ_of hk with ⟨e, h⟩ | ⟨e, h⟩ | ⟨e, h⟩ | ⟨e, h⟩ | ⟨e, h⟩ | ⟨e, h⟩
  · rw [e] at hw ⊢; exact rqL_3 s _ _ _ _ _ _ _ _ _ _ _ _ hx tx w hs rfl rfl rfl rfl h hw
  · rw [e] at hw ⊢; exact rqL_7 s _ _ _ _ _ _ _ _ _ _ _ _ hx tx w hs rfl rfl rfl rfl h hw
  · rw [e] at hw ⊢; exact rqL_9 s _ _ _ _ _ _ _ _ _ _ _ _ hx tx w hs rfl rfl rfl rfl h hw
  · rw [e] at hw ⊢; exact rqL_17 s _ _ _ _ _ _ _ _ _ _ _ _ hx tx w hs rfl rfl rfl rfl h hw
  · rcases h with h | h
    · rw [e] at hw ⊢; exact rqL_33a s _ _ _ _ _ _ _ _ _ _ _ _ hx tx w hs rfl rfl rfl rfl h hw
    · rw [e] at hw ⊢; exact rqL_33b s _ _ _ _ _ _ _ _ _ _ _ _ hx tx w hs rfl rfl rfl rfl h hw
  · rw [e] at hw ⊢; exact rqL_1 s _ _ _ _ _ _ _ _ _ _ _ _ hx tx w hs rfl rfl rfl rfl h hw

set_option maxRecDepth 100000 in
set_option maxHeartbeats 8000000 in
/-- THE REFERENCE'S PRINT OF ANY SEGMENT. -/
theorem rqPrint_any (s : Sg) (hv tv dv cv : Value) (hx tx : List Xr) (w : World) (hs : SIn w s hv tv dv cv hx tx) :
    Calls Tryd.prog 44 #[.agg (svC s hv tv dv cv)] w (PrintP s hx tx w) := by
  obtain ⟨P, hP⟩ : ∃ P, PrintP s hx tx w = P := ⟨_, rfl⟩
  have HBad : Hid (∀ z V, prt s hx tx = (z, []) → Below w.heap.size w V → P (.returned (.tuple #[.slice none 0 0, .int .i64 z])) V) := fun z V hz hV => by
    rw [← hP]
    refine ⟨none, 0, by rw [hz]; rfl, ?_, hV⟩
    rw [hz]
    exact World.ownsRow_nil _ _ _ _
  have HGood : Hid (∀ a m c V bs, prt s hx tx = (0, bs) → V.ownsRow w.heap.size 5 1 (.slice a m c) m (bs.map (Value.int .u8)) → bs.length = m → Below w.heap.size w V → P (.returned (.tuple #[.slice a m c, .int .i64 0])) V) := fun a m c V bs hz ho hm hV => by
    rw [← hP]
    refine ⟨a, c, by rw [hz, ← hm], ?_, hV⟩
    rw [hz]
    subst hm
    exact ho
  rw [hP]
  obtain ⟨W, hW⟩ : ∃ W, w.alloc (.cells (svC s hv tv dv cv) 81) = W := ⟨_, rfl⟩
  have HWe : Hid (w.alloc (.cells (svC s hv tv dv cv) 81) = W) := hW
  have HWs : Hid (W.heap.size = w.heap.size + 1) := by show _ = _; rw [← hW, World.size_alloc]
  have hbW : Below w.heap.size w W := by rw [← hW]; exact (Below.refl _ _).alloc (Nat.le_refl _) _
  have HBW : Hid (Below w.heap.size w W) := hbW
  have HR : Hid (∀ V, Below W.heap.size W V → V.heap[w.heap.size]? = some (.cells (svC s hv tv dv cv) 81 (0, 0))) := fun V hV => by
    have h1 : W.heap[w.heap.size]? = some (.cells (svC s hv tv dv cv) 81 (0, 0)) := by rw [← hW]; exact al_new _ _
    exact (hV.block _ (Array.getElem?_eq_some_iff.1 h1).1).trans h1
  have HS : Hid (∀ V, Below W.heap.size W V → SIn V s hv tv dv cv hx tx) := fun V hV => (hs.below hbW).below hV
  have hKn := rqKnown_any s.typ W
  obtain ⟨y0, y1, y2, y3, y4, y5, y6, y7, y8, y9, y10, y11, y12, y13⟩ := s14_cells (HR.out W (Below.refl _ _))
  clear hW hbW hs hP
  by_cases hk : shp s.typ % 2 = 1
  rotate_left
  · have e1 : decide (shp s.typ % 2 = 1) = false := decide_eq_false hk
    rw [e1] at hKn
    have HZ : Hid (prt s hx tx = (21, [])) := by show _ = _; unfold prt; rw [if_pos hk]
    have HF : Hid (P (.returned (.tuple #[.slice none 0 0, .int .i64 21])) W) := HBad.out _ _ HZ.out HBW.out
    clear hk
    go_enter Tryd.func44, Tryd.ntmps44
    go_wp2_with fail
    rw [HWe.out]
    refine hKn.mono ?_
    rintro e w1 ⟨rfl, hw1⟩
    subst hw1
    clear hKn
    go_wp2
    first | exact HF.out | (go_ret2; exact HF.out)
  have e1 : decide (shp s.typ % 2 = 1) = true := decide_eq_true hk
  rw [e1] at hKn
  have HK : Hid (shp s.typ % 2 = 1) := hk
  obtain ⟨qm, hqm⟩ : ∃ q, may (shp s.typ) s hx tx = q := ⟨_, rfl⟩
  have HQ : Hid (may (shp s.typ) s hx tx = qm) := hqm
  have hF := rqFields_any s hv tv dv cv hx tx W (HS.out W (Below.refl _ _)) hk
  rw [hqm] at hF
  clear hk hqm e1
  go_enter Tryd.func44, Tryd.ntmps44
  go_wp2_with fail
  rw [HWe.out]
  refine hKn.mono ?_
  rintro e w1 ⟨rfl, hw1⟩
  subst hw1
  clear hKn
  go_wp2_with fail
  refine hF.mono ?_
  rintro e w2 ⟨rfl, hb2⟩
  have HB2 : Hid (Below W.heap.size W w2) := hb2
  have HC2 : Hid (Below w.heap.size w w2) := HBW.out.trans (hb2.mono HBW.out.size)
  clear y0 y1 y2 y3 y4 y5 y6 y7 y8 y9 y10 y11 y12 y13 hF
  obtain ⟨y0, y1, y2, y3, y4, y5, y6, y7, y8, y9, y10, y11, y12, y13⟩ := s14_cells (HR.out w2 hb2)
  clear hb2
  cases qm with
  | false =>
    have HZ : Hid (prt s hx tx = (23, [])) := by show _ = _; unfold prt; rw [if_neg (fun h => h HK.out), if_pos HQ.out]
    have HF : Hid (P (.returned (.tuple #[.slice none 0 0, .int .i64 23])) w2) := HBad.out _ _ HZ.out HC2.out
    go_wp2
    first | exact HF.out | (go_ret2; exact HF.out)
  | true =>
    have hLa := rqLay_any s hv tv dv cv hx tx w2 (HS.out w2 HB2.out) HK.out (wr_of HK.out HQ.out)
    go_wp2_with fail
    refine hLa.mono ?_
    rintro e w3 ⟨v3, rfl, ho3, hb3⟩
    have HC3 : Hid (Below w.heap.size w w3) := HC2.out.trans (hb3.mono HC2.out.size)
    obtain ⟨m, hm⟩ : ∃ m, (layB (shp s.typ) s).length = m := ⟨_, rfl⟩
    have HM : Hid ((layB (shp s.typ) s).length = m) := hm
    rw [hm] at ho3
    obtain ⟨b, cb, rfl⟩ := own_sl5 ho3
    have HO3 : Hid (w3.ownsRow w.heap.size 5 1 (.slice b m cb) m ((layB (shp s.typ) s).map (Value.int .u8))) := own_low5 ho3 (by have := HC2.out.size; omega)
    clear hLa ho3 hb3 hm y0 y1 y2 y3 y4 y5 y6 y7 y8 y9 y10 y11 y12 y13
    by_cases h8 : (8192 : Int) < (m : Int)
    · have d8 : decide ((8192 : Int) < (m : Int)) = true := decide_eq_true h8
      have HZ : Hid (prt s hx tx = (3, [])) := by show _ = _; unfold prt; rw [if_neg (fun h => h HK.out), if_neg (by rw [HQ.out]; simp), if_pos (by rw [HM.out]; omega)]
      have HF : Hid (P (.returned (.tuple #[.slice none 0 0, .int .i64 3])) w3) := HBad.out _ _ HZ.out HC3.out
      go_wp2
      first | exact HF.out | (go_ret2; exact HF.out)
    · have d8 : decide ((8192 : Int) < (m : Int)) = false := decide_eq_false h8
      have HZ : Hid (prt s hx tx = (0, layB (shp s.typ) s)) := by show _ = _; unfold prt; rw [if_neg (fun h => h HK.out), if_neg (by rw [HQ.out]; simp), if_neg (by rw [HM.out]; omega)]
      have HF : Hid (P (.returned (.tuple #[.slice b m cb, .int .i64 0])) w3) := HGood.out _ _ _ _ _ HZ.out HO3.out HM.out HC3.out
      go_wp2
      first | exact HF.out | (go_ret2; exact HF.out)

end Go.Proofs.YtkkmoplijicmpaeDoor

namespace Go.Proofs.YtkkmoplijicmpaeDoor
open Go.RowKit
set_option linter.unusedVariables false
set_option linter.unusedSimpArgs false

/-- AN APPEND OF ONE: in place, or in a new block; whatever begins as the row does keeps what it has. -/
theorem append_b {P : Program} (w : World) {ops : Array Oper} {rest : List Oper} {o : Oper} {a : Act} {Q : Exit → Act → World → Prop} (hgd : o.guard = none) (s x : Operand) (ts : TypeId)
    (ho : o.op = .call { callee := .builtin .append, args := #[s, x], argTypes := #[ts, ts] })
    (t : TypeId) (i : TypeInfo) (z : Value) (bytes : Nat) (ht : P.underlying ts = some (.slice t)) (hi : P.info? t = some i) (hz : i.zero = some z)
    (hsize : i.size = 1) (hby : i.bytes = bytes) (hzs : z.cells.size = 1)
    (v : Value) (n : Nat) (xs : List Value) (hs : a.eval s = v) (hown : w.ownsRow 0 t 1 v n xs)
    (ad : Addr) (cc : Nat) (b : Value) (hx : a.eval x = .slice (some ad) 1 cc) (hnews : ∀ j u, [b][j]? = some u → w.cell? (ad.add j) = some u) (h1 : b.oneCell' = true)
    (hbytes : (n + 1) * bytes ≤ 140737488355328) (h63 : n + 1 ≤ maxLen)
    (h : ∀ v' w', w'.ownsRow 0 t 1 v' (n + 1) (xs ++ [b]) → w.grownBy w' v.ownBlock → (v'.ownBlock = v.ownBlock ∨ ∃ g, v'.ownBlock = some g ∧ w.heap.size ≤ g) →
      (∀ u m ys, w.ownsRow 0 t 1 u m ys → (∀ g, u.ownBlock = some g → v.ownBlock = some g → ys = xs.take m ∧ m ≤ n) → w'.ownsRow 0 t 1 u m ys) → wpList P ops Q rest (a.put o.dst v') w') : wpList P ops Q (o :: rest) a w := by
  have h1c : ∀ u ∈ [b], u.oneCell' = true := fun u hu => by simp at hu; subst hu; exact h1
  have hgrows : ∀ (ao : Option Addr) (cap : Nat), v = .slice ao n cap → (ao = none → n = 0 ∧ cap = 0) → (∀ b, ao = some b → ∀ j u, xs[j]? = some u → w.cell? (b.add j) = some u) → cap < n + 1 → wpList P ops Q (o :: rest) a w := fun ao cap hv hnone holds hfull => by
    refine wpList_append_grows w hgd s x ts ho t i z 1 bytes ht hi hz hsize hby hzs (by decide) ao n cap xs (by rw [hs, hv]) hnone (by have := hown.1; omega) holds ad 1 cc [b] hx rfl hnews h1c hfull h63 hbytes ?_
    intro v' w' ho' hg'
    refine h v' w' ?_ ⟨hg'.os, hg'.tape, hg'.output, hg'.size, fun j hj _ => hg'.block j hj (by simp)⟩ (.inr ?_) (fun u m ys hu _ => ?_)
    · obtain ⟨k1, ⟨e, e0⟩ | ⟨g, cap', cur, e, q⟩⟩ := ho'
      · exact ⟨k1, .inl ⟨e, e0⟩⟩
      · exact ⟨k1, .inr ⟨g, cap', cur, e, Nat.zero_le _, q.2⟩⟩
    · obtain ⟨k1, ⟨e, e0⟩ | ⟨g, cap', cur, rfl, q, _⟩⟩ := ho'
      · omega
      · exact ⟨g, rfl, q⟩
    · obtain ⟨k1, ⟨e, e0⟩ | ⟨g, cap', cur, e, q1, q2, q3⟩⟩ := hu
      · exact ⟨k1, .inl ⟨e, e0⟩⟩
      · exact ⟨k1, .inr ⟨g, cap', cur, e, q1, (hg'.block g (Array.getElem?_eq_some_iff.mp q2).1 (by simp)).trans q2, q3⟩⟩
  obtain ⟨hxl, ⟨rfl, h0⟩ | ⟨g, cap, cur, rfl, hb, hg, e1, e2, e3, e4⟩⟩ := id hown
  · exact hgrows none 0 (by rw [h0]) (fun _ => ⟨h0, rfl⟩) (fun b hb => by cases hb) (by omega)
  · by_cases hfit : n + 1 ≤ cap
    · refine wpList_append_fits w hgd s x ts ho 0 t i 1 ht hi hsize g n cap xs hs hown ad 1 cc [b] hx rfl hnews h1c hfit ?_
      intro w' ho' hg'
      refine h _ w' ho' hg' (.inl rfl) (fun u m ys hu hp => ?_)
      obtain ⟨k1, ⟨e, f0⟩ | ⟨g2, cap2, cur2, rfl, f1, f2, f3, f4, f5, f6⟩⟩ := hu
      · exact ⟨k1, .inl ⟨e, f0⟩⟩
      · by_cases hgg : g2 = g
        · subst hgg
          obtain ⟨p1, p2⟩ := hp g2 rfl rfl
          rw [hg] at f2
          simp only [Option.some.injEq, Obj.cells.injEq] at f2
          obtain ⟨f2, _⟩ := f2
          subst f2
          obtain ⟨_, ⟨x0, _⟩ | ⟨g3, cap3, cur3, x0, x1, x2, x3, x4, x5, x6⟩⟩ := ho'
          · cases x0
          · simp only [Value.slice.injEq, Option.some.injEq, Addr.mk.injEq, and_true, true_and] at x0
            obtain ⟨rfl, rfl⟩ := x0
            refine ⟨k1, .inr ⟨g2, cap2, cur3, rfl, Nat.zero_le _, x2, f3, f4, by omega, ?_⟩⟩
            have e7 : cur3.toList.take (m * 1) = (cur3.toList.take ((n + 1) * 1)).take (m * 1) := by rw [List.take_take, Nat.min_eq_left (by omega)]
            rw [e7, x6, List.take_append_of_le_length (by omega), p1, Nat.mul_one]
        · exact ⟨k1, .inr ⟨g2, cap2, cur2, rfl, f1, (hg'.block g2 (Array.getElem?_eq_some_iff.mp f2).1 (fun e => hgg (Option.some.inj e))).trans f2, f3, f4, f5, f6⟩⟩
    · refine hgrows (some ⟨g, 0, none⟩) cap rfl (fun e => by cases e) (fun b hb j u hj => ?_) (by omega)
      cases hb
      exact World.ownsRow.cells (g := g) hown rfl j u hj

/-- A row of bytes of its own. -/
def BOwn (w : World) (base : Nat) (v : Value) (L : List Int) : Prop := w.ownsRow base 5 1 v L.length (L.map (Value.int .u8))
theorem BOwn.shape {w : World} {base : Nat} {v : Value} {L : List Int} (h : BOwn w base v L) : ∃ a c, v = .slice a L.length c := by
  obtain ⟨_, ⟨e, e0⟩ | ⟨g, cap, cur, e, _⟩⟩ := h
  · exact ⟨none, 0, by rw [e, e0]⟩
  · exact ⟨_, _, e⟩
theorem BOwn.lenEq {w : World} {base n c : Nat} {a : Option Addr} {L : List Int} (h : BOwn w base (.slice a n c) L) : L.length = n := by
  obtain ⟨a', c', e⟩ := h.shape
  simp only [Value.slice.injEq] at e
  exact e.2.1.symm
theorem BOwn.lt {w : World} {base : Nat} {v : Value} {L : List Int} (h : BOwn w base v L) : ∀ g, v.ownBlock = some g → base ≤ g ∧ g < w.heap.size := World.ownsRow.lt h
theorem BOwn.blk {w w' : World} {base : Nat} {v : Value} {L : List Int} (h : BOwn w base v L) (hb : ∀ g, v.ownBlock = some g → w'.heap[g]? = w.heap[g]?) : BOwn w' base v L := C.own_blk2 h hb
theorem BOwn.some' {w : World} {base : Nat} {v : Value} {L : List Int} (h : BOwn w base v L) (hn : 0 < L.length) : ∃ g cap, v = .slice (some ⟨g, 0, none⟩) L.length cap := C.own_some h hn
theorem BOwn.cell {w : World} {base g n cap k : Nat} {L : List Int} {x : Int} (h : BOwn w base (.slice (some ⟨g, 0, none⟩) n cap) L) (hk : L[k]? = some x) : w.cell? ⟨g, k, none⟩ = some (.int .u8 x) ∧ w.frozen? ⟨g, k, none⟩ = false := by
  have hn := h.lenEq
  subst hn
  have hkl : k < L.length := (List.getElem?_eq_some_iff.mp hk).1
  exact ⟨(World.ownsRow.cellAt h _ (by omega)).trans (by rw [List.getElem?_map, hk]; rfl), World.ownsRow.frozenAt h _⟩
theorem BOwn.put {w : World} {base g n cap : Nat} {L : List Int} (h : BOwn w base (.slice (some ⟨g, 0, none⟩) n cap) L) (k : Nat) (x : Int) : BOwn (w.setCell ⟨g, k, none⟩ (.int .u8 x)) base (.slice (some ⟨g, 0, none⟩) n cap) (L.set k x) := by
  have hn := h.lenEq
  subst hn
  have h1 := (World.ownsRow.stored h k (.int .u8 x)).1
  unfold BOwn
  rw [List.length_set, List.map_set]
  exact h1
theorem BOwn.drewN {w : World} {base : Nat} {v : Value} {L : List Int} (h : BOwn w base v L) (n : Nat) : BOwn (w.drewN n) base v L := h

/-- The mark of row i at the place k. -/
def mB (i k : Int) : Int := if k.tmod 2 = 0 then i % 256 else bits .xor .u8 (i / 256 % 256) 85
theorem markByte_any (i k : Int) (w : World) : Calls Tryd.prog 121 #[.int .i64 i, .int .i64 k] w fun e w' => e = .returned (.int .u8 (mB i k)) ∧ w' = w := by
  by_cases h : k.tmod 2 = 0
  · have e0 : (k.tmod 2 == 0) = true := by simp [h]
    have e : mB i k = i % 256 := by unfold mB; rw [if_pos h]
    rw [e]
    go_enter Tryd.func121, Tryd.ntmps121
    go_wp2
    go_ret
    exact ⟨rfl, rfl⟩
  · have e0 : (k.tmod 2 == 0) = false := by simp [h]
    have e : mB i k = bits .xor .u8 (i / 256 % 256) 85 := by unfold mB; rw [if_neg h]
    rw [e]
    go_enter Tryd.func121, Tryd.ntmps121
    go_wp2
    go_ret
    exact ⟨rfl, rfl⟩

end Go.Proofs.YtkkmoplijicmpaeDoor
