import Derived.Test.YtkkmoplijicmpabDoorLb2
import Derived.ArgAppend
import Derived.Maps.AppendAt
import Derived.Deep.RegionHeld3
import Derived.BigQuiet
namespace Go.Proofs.YtkkmoplijicmpabDoor
open Go.RowKit
set_option linter.unusedVariables false
set_option linter.unusedSimpArgs false

/-- AN APPEND OF ONE: in place, or in a new block; whatever begins as the row does keeps what it has. -/
theorem append_b {P : Program} (w : World) {ops : Array Oper} {rest : List Oper} {o : Oper} {a : Act} {Q : Exit → Act → World → Prop} (hgd : o.guard = none) (s x : Operand) (ts : TypeId)
    (ho : o.op = .call { callee := .builtin .append, args := #[s, x], argTypes := #[ts, ts] })
    (t : TypeId) (i : TypeInfo) (z : Value) (bytes : Nat) (ht : P.underlying ts = some (.slice t)) (hi : P.info? t = some i) (hz : i.zero = some z)
    (hsize : i.size = 1) (hby : i.bytes = bytes) (hzs : z.cells.size = 1)
    (v : Value) (n : Nat) (xs : List Value) (hs : a.eval s = v) (hown : w.ownsRow 0 t 1 v n xs)
    (ad : Addr) (cc : Nat) (b : Value) (hx : a.eval x = .slice (some ad) 1 cc) (hnews : ∀ j u, [b][j]? = some u → w.cell? (ad.add j) = some u) (h1 : b.oneCell' = true)
    (hbytes : (n + 1) * bytes ≤ 140737488355328) (h63 : n + 1 ≤ maxLen)
    (h : ∀ v' w', w'.ownsRow 0 t 1 v' (n + 1) (xs ++ [b]) → w.grownBy w' v.ownBlock → (v'.ownBlock = v.ownBlock ∨ ∃ g, v'.ownBlock = some g ∧ w.heap.size ≤ g) →
      (∀ u m ys, w.ownsRow 0 t 1 u m ys → (∀ g, u.ownBlock = some g → v.ownBlock = some g → ys = xs.take m ∧ m ≤ n) → w'.ownsRow 0 t 1 u m ys) → wpList P ops Q rest (a.put o.dst v') w') : wpList P ops Q (o :: rest) a w := by
  have h1c : ∀ u ∈ [b], u.oneCell' = true := fun u hu => by simp at hu; subst hu; exact h1
  have hgrows : ∀ (ao : Option Addr) (cap : Nat), v = .slice ao n cap → (ao = none → n = 0 ∧ cap = 0) → (∀ b, ao = some b → ∀ j u, xs[j]? = some u → w.cell? (b.add j) = some u) → cap < n + 1 → wpList P ops Q (o :: rest) a w := fun ao cap hv hnone holds hfull => by
    refine wpList_append_grows w hgd s x ts ho t i z 1 bytes ht hi hz hsize hby hzs (by decide) ao n cap xs (by rw [hs, hv]) hnone (by have := hown.1; omega) holds ad 1 cc [b] hx rfl hnews h1c hfull h63 hbytes ?_
    intro v' w' ho' hg'
    refine h v' w' ?_ ⟨hg'.os, hg'.tape, hg'.output, hg'.size, fun j hj _ => hg'.block j hj (by simp)⟩ (.inr ?_) (fun u m ys hu _ => ?_)
    · obtain ⟨k1, ⟨e, e0⟩ | ⟨g, cap', cur, e, q⟩⟩ := ho'
      · exact ⟨k1, .inl ⟨e, e0⟩⟩
      · exact ⟨k1, .inr ⟨g, cap', cur, e, Nat.zero_le _, q.2⟩⟩
    · obtain ⟨k1, ⟨e, e0⟩ | ⟨g, cap', cur, rfl, q, _⟩⟩ := ho'
      · omega
      · exact ⟨g, rfl, q⟩
    · obtain ⟨k1, ⟨e, e0⟩ | ⟨g, cap', cur, e, q1, q2, q3⟩⟩ := hu
      · exact ⟨k1, .inl ⟨e, e0⟩⟩
      · exact ⟨k1, .inr ⟨g, cap', cur, e, q1, (hg'.block g (Array.getElem?_eq_some_iff.mp q2).1 (by simp)).trans q2, q3⟩⟩
  obtain ⟨hxl, ⟨rfl, h0⟩ | ⟨g, cap, cur, rfl, hb, hg, e1, e2, e3, e4⟩⟩ := id hown
  · exact hgrows none 0 (by rw [h0]) (fun _ => ⟨h0, rfl⟩) (fun b hb => by cases hb) (by omega)
  · by_cases hfit : n + 1 ≤ cap
    · refine wpList_append_fits w hgd s x ts ho 0 t i 1 ht hi hsize g n cap xs hs hown ad 1 cc [b] hx rfl hnews h1c hfit ?_
      intro w' ho' hg'
      refine h _ w' ho' hg' (.inl rfl) (fun u m ys hu hp => ?_)
      obtain ⟨k1, ⟨e, f0⟩ | ⟨g2, cap2, cur2, rfl, f1, f2, f3, f4, f5, f6⟩⟩ := hu
      · exact ⟨k1, .inl ⟨e, f0⟩⟩
      · by_cases hgg : g2 = g
        · subst hgg
          obtain ⟨p1, p2⟩ := hp g2 rfl rfl
          rw [hg] at f2
          simp only [Option.some.injEq, Obj.cells.injEq] at f2
          obtain ⟨f2, _⟩ := f2
          subst f2
          obtain ⟨_, ⟨x0, _⟩ | ⟨g3, cap3, cur3, x0, x1, x2, x3, x4, x5, x6⟩⟩ := ho'
          · cases x0
          · simp only [Value.slice.injEq, Option.some.injEq, Addr.mk.injEq, and_true, true_and] at x0
            obtain ⟨rfl, rfl⟩ := x0
            refine ⟨k1, .inr ⟨g2, cap2, cur3, rfl, Nat.zero_le _, x2, f3, f4, by omega, ?_⟩⟩
            have e7 : cur3.toList.take (m * 1) = (cur3.toList.take ((n + 1) * 1)).take (m * 1) := by rw [List.take_take, Nat.min_eq_left (by omega)]
            rw [e7, x6, List.take_append_of_le_length (by omega), p1, Nat.mul_one]
        · exact ⟨k1, .inr ⟨g2, cap2, cur2, rfl, f1, (hg'.block g2 (Array.getElem?_eq_some_iff.mp f2).1 (fun e => hgg (Option.some.inj e))).trans f2, f3, f4, f5, f6⟩⟩
    · refine hgrows (some ⟨g, 0, none⟩) cap rfl (fun e => by cases e) (fun b hb j u hj => ?_) (by omega)
      cases hb
      exact World.ownsRow.cells (g := g) hown rfl j u hj

/-- A row of bytes of its own. -/
def BOwn (w : World) (base : Nat) (v : Value) (L : List Int) : Prop := w.ownsRow base 5 1 v L.length (L.map (Value.int .u8))
theorem BOwn.shape {w : World} {base : Nat} {v : Value} {L : List Int} (h : BOwn w base v L) : ∃ a c, v = .slice a L.length c := by
  obtain ⟨_, ⟨e, e0⟩ | ⟨g, cap, cur, e, _⟩⟩ := h
  · exact ⟨none, 0, by rw [e, e0]⟩
  · exact ⟨_, _, e⟩
theorem BOwn.lenEq {w : World} {base n c : Nat} {a : Option Addr} {L : List Int} (h : BOwn w base (.slice a n c) L) : L.length = n := by
  obtain ⟨a', c', e⟩ := h.shape
  simp only [Value.slice.injEq] at e
  exact e.2.1.symm
theorem BOwn.lt {w : World} {base : Nat} {v : Value} {L : List Int} (h : BOwn w base v L) : ∀ g, v.ownBlock = some g → base ≤ g ∧ g < w.heap.size := World.ownsRow.lt h
theorem BOwn.blk {w w' : World} {base : Nat} {v : Value} {L : List Int} (h : BOwn w base v L) (hb : ∀ g, v.ownBlock = some g → w'.heap[g]? = w.heap[g]?) : BOwn w' base v L := C.own_blk2 h hb
theorem BOwn.some' {w : World} {base : Nat} {v : Value} {L : List Int} (h : BOwn w base v L) (hn : 0 < L.length) : ∃ g cap, v = .slice (some ⟨g, 0, none⟩) L.length cap := C.own_some h hn
theorem BOwn.cell {w : World} {base g n cap k : Nat} {L : List Int} {x : Int} (h : BOwn w base (.slice (some ⟨g, 0, none⟩) n cap) L) (hk : L[k]? = some x) : w.cell? ⟨g, k, none⟩ = some (.int .u8 x) ∧ w.frozen? ⟨g, k, none⟩ = false := by
  have hn := h.lenEq
  subst hn
  have hkl : k < L.length := (List.getElem?_eq_some_iff.mp hk).1
  exact ⟨(World.ownsRow.cellAt h _ (by omega)).trans (by rw [List.getElem?_map, hk]; rfl), World.ownsRow.frozenAt h _⟩
theorem BOwn.put {w : World} {base g n cap : Nat} {L : List Int} (h : BOwn w base (.slice (some ⟨g, 0, none⟩) n cap) L) (k : Nat) (x : Int) : BOwn (w.setCell ⟨g, k, none⟩ (.int .u8 x)) base (.slice (some ⟨g, 0, none⟩) n cap) (L.set k x) := by
  have hn := h.lenEq
  subst hn
  have h1 := (World.ownsRow.stored h k (.int .u8 x)).1
  unfold BOwn
  rw [List.length_set, List.map_set]
  exact h1
theorem BOwn.drewN {w : World} {base : Nat} {v : Value} {L : List Int} (h : BOwn w base v L) (n : Nat) : BOwn (w.drewN n) base v L := h

/-- The mark of row i at the place k. -/
def mB (i k : Int) : Int := if k.tmod 2 = 0 then i % 256 else bits .xor .u8 (i / 256 % 256) 85
theorem markByte_any (i k : Int) (w : World) : Calls Tryd.prog 66 #[.int .i64 i, .int .i64 k] w fun e w' => e = .returned (.int .u8 (mB i k)) ∧ w' = w := by
  by_cases h : k.tmod 2 = 0
  · have e0 : (k.tmod 2 == 0) = true := by simp [h]
    have e : mB i k = i % 256 := by unfold mB; rw [if_pos h]
    rw [e]
    go_enter Tryd.func66, Tryd.ntmps66
    go_wp2
    go_ret
    exact ⟨rfl, rfl⟩
  · have e0 : (k.tmod 2 == 0) = false := by simp [h]
    have e : mB i k = bits .xor .u8 (i / 256 % 256) 85 := by unfold mB; rw [if_neg h]
    rw [e]
    go_enter Tryd.func66, Tryd.ntmps66
    go_wp2
    go_ret
    exact ⟨rfl, rfl⟩

end Go.Proofs.YtkkmoplijicmpabDoor
