import Derived.Test.YtllhbhogfffedaaGreatDoorRcRf8
import Derived.Test.YtllhbhogfffedaaGreatDoorRcOwe
import Derived.Deep.QuietTactic
import Derived.BigQuiet
import Derived.Test.YtllhbhogfffedaaGreatDoorRcPr2
import Derived.Deep.RegionWith
import Derived.Test.YtllhbhogfffedaaGreatDoorRcWrd
namespace Go.Proofs.YtllhbhogfffedaaGreatDoor
open Go.RowKit

/-- An append to a row of bytes that is owned: the row's block, or a new one. -/
theorem append_at {P : Program} (w : World) {ops : Array Oper} {rest : List Oper} {o : Oper} {a : Act} {Q : Exit → Act → World → Prop} (hgd : o.guard = none) (s x : Operand) (t : TypeId)
    (ho : o.op = .call { callee := .builtin .append, args := #[s, x], argTypes := #[t, t] })
    (base : Nat) (e : TypeId) (i : TypeInfo) (z : Value) (bytes : Nat) (ht : P.underlying t = some (.slice e)) (hi : P.info? e = some i) (hz : i.zero = some z)
    (hsize : i.size = 1) (hby : i.bytes = bytes) (hzs : z.cells.size = 1)
    (v : Value) (n : Nat) (xs : List Value) (hs : a.eval s = v) (hown : w.ownsRow base e 1 v n xs)
    (k : IntKind) (ao : Option Addr) (m c : Nat) (zs : List Int) (hx : a.eval x = .slice ao m c) (hnil : ao = none → m = 0 ∧ c = 0) (hl : zs.length = m) (hz' : Lies k w ao zs)
    (h63 : n + m ≤ maxLen) (hbytes : (n + m) * bytes ≤ 140737488355328) (hbase : base ≤ w.heap.size)
    (h : ∀ v' w', w'.ownsRow base e 1 v' (n + m) (xs ++ zs.map (Value.int k)) → w.grownBy w' v.ownBlock → (∀ j, v'.ownBlock = some j → v.ownBlock = some j ∨ w.heap.size ≤ j) → wpList P ops Q rest (a.put o.dst v') w') : wpList P ops Q (o :: rest) a w := by
  cases ao with
  | none =>
    obtain ⟨rfl, rfl⟩ := hnil rfl
    obtain rfl : zs = [] := List.eq_nil_of_length_eq_zero hl
    refine wpList_append_own_none hgd s x t ho base e i 1 ht hi v n xs hs hown hx ?_
    exact h v w (by simpa using hown) (World.grownBy.refl _ _) (fun j hj => .inl hj)
  | some ad =>
    refine wpList_append_own_at w hgd s x t ho base e i z 1 bytes ht hi hz hsize hby hzs (by decide) v n xs hs hown ad m c (zs.map (Value.int k)) hx (by simpa using hl) ?_ (by intro u hu; simp at hu; obtain ⟨y, _, rfl⟩ := hu; rfl) h63 hbytes hbase (fun v' w' h1 h2 _ h4 => h v' w' h1 h2 (fun j hj => ?_))
    · intro j u hj
      have hjl : j < zs.length := by
        rcases Nat.lt_or_ge j zs.length with q | q
        · exact q
        · rw [List.getElem?_eq_none (by simpa using q)] at hj; cases hj
      rcases hz' with rfl | ⟨b, off, hb, hc⟩
      · simp at hjl
      · simp only [Option.some.injEq] at hb
        subst hb
        rw [List.getElem?_map, List.getElem?_eq_getElem hjl] at hj
        simp only [Option.map_some, Option.some.injEq] at hj
        rw [show (⟨b, off, none⟩ : Addr).add j = ⟨b, off + j, none⟩ from by unfold Addr.add; split <;> simp_all, hc j hjl, ← hj]
        simp [List.getD_eq_getElem?_getD, List.getElem?_eq_getElem hjl]
    · rcases h4 with h4 | h4
      · left; rw [← h4]; exact hj
      · right; rw [h4] at hj; simp at hj; omega

/-- v became v', in place or in new memory; else nothing that was turned. -/
structure Grew (w w' : World) (v v' : Value) : Prop where
  grown : w.grownBy w' v.ownBlock
  stays : ∀ j, v'.ownBlock = some j → v.ownBlock = some j ∨ w.heap.size ≤ j

theorem Grew.refl (w : World) (v : Value) : Grew w w v v := ⟨World.grownBy.refl _ _, fun _ h => .inl h⟩
theorem Grew.trans {w w1 w2 : World} {v v1 v2 : Value} (h : Grew w w1 v v1) (k : Grew w1 w2 v1 v2) : Grew w w2 v v2 := by
  refine ⟨⟨k.grown.os.trans h.grown.os, k.grown.tape.trans h.grown.tape, k.grown.output.trans h.grown.output, Nat.le_trans h.grown.size k.grown.size, fun j hj hne => ?_⟩, fun j hj => ?_⟩
  · rw [k.grown.block j (Nat.lt_of_lt_of_le hj h.grown.size) ?_]
    · exact h.grown.block j hj hne
    · intro e
      rcases h.stays j e.symm with e' | e'
      · exact hne e'.symm
      · omega
  · rcases k.stays j hj with e | e
    · exact h.stays j e
    · right; have := h.grown.size; omega
theorem Grew.below {w w' : World} {v : Value} (h : Below w.heap.size w w') : Grew w w' v v := ⟨⟨h.os, h.tape, h.output, h.size, fun k hk _ => h.block k hk⟩, fun _ h => .inl h⟩
theorem Grew.base {w w' : World} {v v' : Value} {base size n : Nat} {e : TypeId} {xs : List Value} (h : Grew w w' v v') (ho : w.ownsRow base e size v n xs) (hb : base ≤ w.heap.size) : Below base w w' :=
  (Below.refl _ _).grown h.grown hb (fun k hk => (ho.lt k hk).1)

end Go.Proofs.YtllhbhogfffedaaGreatDoor

namespace Go.Proofs.YtllhbhogfffedaaGreatDoor
open Go.RowKit
set_option linter.unusedVariables false

/-- A record that was read: its lists lie from lo on, below hi; itself it lies in block b. -/
structure RAt (w : World) (lo hi b : Nat) (r : Rc) (sa da : Option Addr) (sc dc : Nat) : Prop where
  spn : C.SOwn w lo (.slice sa r.spans.length sc) r.spans
  dat : w.ownsRow lo 5 1 (.slice da r.data.length dc) r.data.length (r.data.map (Value.int .u8))
  ne : ∀ j, (Value.slice sa r.spans.length sc).ownBlock = some j → (Value.slice da r.data.length dc).ownBlock ≠ some j
  shi : ∀ k, (Value.slice sa r.spans.length sc).ownBlock = some k → k < hi
  dhi : ∀ k, (Value.slice da r.data.length dc).ownBlock = some k → k < hi
  box : w.heap[b]? = some (rcO r (.slice sa r.spans.length sc) (.slice da r.data.length dc))
theorem own_same {w w' : World} {base size n : Nat} {e : TypeId} {v : Value} {xs : List Value} (h : w.ownsRow base e size v n xs) (hg : ∀ k, v.ownBlock = some k → w'.heap[k]? = w.heap[k]?) : w'.ownsRow base e size v n xs := by
  obtain ⟨hl, h | ⟨g, cap, cur, rfl, hb, hh, r⟩⟩ := h
  · exact ⟨hl, .inl h⟩
  · exact ⟨hl, .inr ⟨g, cap, cur, rfl, hb, (hg g rfl).trans hh, r⟩⟩
theorem own_lower {w : World} {base base' size n : Nat} {e : TypeId} {v : Value} {xs : List Value} (h : w.ownsRow base e size v n xs) (hb : base' ≤ base) : w.ownsRow base' e size v n xs := by
  obtain ⟨hl, h | ⟨g, cap, cur, rfl, hb', r⟩⟩ := h
  · exact ⟨hl, .inl h⟩
  · exact ⟨hl, .inr ⟨g, cap, cur, rfl, Nat.le_trans hb hb', r⟩⟩
theorem RAt.same {w w' : World} {lo hi b : Nat} {r : Rc} {sa da : Option Addr} {sc dc : Nat} (h : RAt w lo hi b r sa da sc dc) (hg : ∀ g, (lo ≤ g ∧ g < hi) ∨ g = b → g < w.heap.size → w'.heap[g]? = w.heap[g]?) : RAt w' lo hi b r sa da sc dc :=
  ⟨own_same h.spn (fun k hk => hg k (.inl ⟨(World.ownsRow.lt h.spn k hk).1, h.shi k hk⟩) (World.ownsRow.lt h.spn k hk).2), own_same h.dat (fun k hk => hg k (.inl ⟨(h.dat.lt k hk).1, h.dhi k hk⟩) (h.dat.lt k hk).2), h.ne, h.shi, h.dhi, (hg b (.inr rfl) (Array.getElem?_eq_some_iff.mp h.box).1).trans h.box⟩
theorem RAt.below {w w' : World} {lo hi b : Nat} {r : Rc} {sa da : Option Addr} {sc dc : Nat} (h : RAt w lo hi b r sa da sc dc) (hb : Below w.heap.size w w') : RAt w' lo hi b r sa da sc dc := h.same (fun g _ hg => hb.block g hg)
/-- The two records that Owned is asked of. -/
def twoO (r s : Ro) (i : Nat) : Ro := if i = 0 then r else s
def twoF (vl : Value) (cs : List Value) (r s : Ro) (p : Nat) : Rwo :=
  if p = 0 then ⟨35, 1, .slice none 0 0, 0, []⟩ else if p = 1 then ⟨79, 1, .slice none 0 0, 0, []⟩ else if p = 2 then ⟨81, 11, vl, 2, cs⟩ else if p = 3 then dRow r.dv r.r.data else if p = 4 then sRow r.sv r.r.spans else if p = 5 then dRow s.dv s.r.data else sRow s.sv s.r.spans
end Go.Proofs.YtllhbhogfffedaaGreatDoor

namespace Go.Proofs.YtllhbhogfffedaaGreatDoor
open Go.RowKit
set_option linter.unusedVariables false

end Go.Proofs.YtllhbhogfffedaaGreatDoor

namespace Go.Proofs.YtllhbhogfffedaaGreatDoor
open Go.RowKit
set_option linter.unusedVariables false
set_option linter.unusedSimpArgs false

/-- A list of records that lies somewhere. -/
def RLin (w : World) (a : Option Addr) (l : List Rc) : Prop :=
  l = [] ∨ ∃ g off, a = some ⟨g, off, none⟩ ∧ ∀ i r, l[i]? = some r → ∃ sa da sc dc, (∀ j u, (rcC r (.slice sa r.spans.length sc) (.slice da r.data.length dc))[j]? = some u → w.cell? ⟨g, off + i * 11 + j, none⟩ = some u) ∧ RIn w r sa da r.spans.length r.data.length sc dc
theorem RLin.nil (w : World) (a : Option Addr) : RLin w a [] := .inl rfl
theorem RLin.below {w w' : World} {a : Option Addr} {l : List Rc} (h : RLin w a l) (hb : Below w.heap.size w w') : RLin w' a l := by
  rcases h with h | ⟨g, off, ha, h⟩
  · exact .inl h
  · refine .inr ⟨g, off, ha, fun i r hr => ?_⟩
    obtain ⟨sa, da, sc, dc, h1, h2⟩ := h i r hr
    exact ⟨sa, da, sc, dc, fun j u hj => C.cell_below (h1 j u hj) hb, h2.below hb⟩
theorem RLin.at {w : World} {a : Option Addr} {l : List Rc} (h : RLin w a l) {i : Nat} {r : Rc} (hr : l[i]? = some r) : ∃ g off sa da sc dc, a = some ⟨g, off, none⟩ ∧ (∀ j u, (rcC r (.slice sa r.spans.length sc) (.slice da r.data.length dc))[j]? = some u → w.cell? ⟨g, off + i * 11 + j, none⟩ = some u) ∧ RIn w r sa da r.spans.length r.data.length sc dc := by
  rcases h with rfl | ⟨g, off, ha, h⟩
  · simp at hr
  · obtain ⟨sa, da, sc, dc, h1, h2⟩ := h i r hr
    exact ⟨g, off, sa, da, sc, dc, ha, h1, h2⟩
theorem RLin.take {w : World} {a : Option Addr} {l : List Rc} (h : RLin w a l) (k : Nat) : RLin w a (l.take k) := by
  rcases h with rfl | ⟨g, off, ha, h⟩
  · left; simp
  · refine .inr ⟨g, off, ha, fun i r hr => h i r ?_⟩
    rw [List.getElem?_take] at hr
    split at hr
    · exact hr
    · cases hr

end Go.Proofs.YtllhbhogfffedaaGreatDoor

namespace Go.Proofs.YtllhbhogfffedaaGreatDoor
open Go.RowKit
set_option linter.unusedVariables false
set_option linter.unusedSimpArgs false

abbrev o0 : Ro := ⟨rz0, none, none, 0, 0⟩
def oAt (os : List Ro) (i : Nat) : Ro := os.getD i o0
def rlC (os : List Ro) : List Value := os.flatMap fun o => (rcC o.r o.sv o.dv).toList
/-- The rows of a list of records: the list's own, and two of each record. -/
def rlF (v : Value) (os : List Ro) (p : Nat) : Rwo :=
  if p = 0 then ⟨35, 1, .slice none 0 0, 0, []⟩ else if p = 1 then ⟨79, 1, .slice none 0 0, 0, []⟩ else if p = 2 then ⟨81, 11, v, os.length, rlC os⟩
  else if (p - 3) % 2 = 0 then dRow (oAt os ((p - 3) / 2)).dv (oAt os ((p - 3) / 2)).r.data else sRow (oAt os ((p - 3) / 2)).sv (oAt os ((p - 3) / 2)).r.spans
theorem rlF_2 (v : Value) (os : List Ro) : rlF v os 2 = ⟨81, 11, v, os.length, rlC os⟩ := rfl
theorem rlF_d (v : Value) (os : List Ro) (i : Nat) : rlF v os (3 + 2 * i) = dRow (oAt os i).dv (oAt os i).r.data := by
  unfold rlF
  rw [if_neg (by omega), if_neg (by omega), if_neg (by omega), if_pos (by omega), show (3 + 2 * i - 3) / 2 = i by omega]
theorem rlF_s (v : Value) (os : List Ro) (i : Nat) : rlF v os (4 + 2 * i) = sRow (oAt os i).sv (oAt os i).r.spans := by
  unfold rlF
  rw [if_neg (by omega), if_neg (by omega), if_neg (by omega), if_neg (by omega), show (4 + 2 * i - 3) / 2 = i by omega]
theorem oAt_old {os : List Ro} {i : Nat} (o : Ro) (h : i < os.length) : oAt (os ++ [o]) i = oAt os i := by
  unfold oAt
  rw [List.getD_eq_getElem?_getD, List.getD_eq_getElem?_getD, List.getElem?_append_left h]
theorem oAt_new (os : List Ro) (o : Ro) : oAt (os ++ [o]) os.length = o := by
  unfold oAt
  rw [List.getD_eq_getElem?_getD, List.getElem?_append_right (Nat.le_refl _), Nat.sub_self]
  rfl
theorem rlF_old {v v' : Value} {os : List Ro} (o : Ro) {p : Nat} (h : p < 3 + 2 * os.length) (h2 : p ≠ 2) : rlF v' (os ++ [o]) p = rlF v os p := by
  by_cases h3 : p < 3
  · have : p = 0 ∨ p = 1 := by omega
    rcases this with rfl | rfl <;> rfl
  · have e0 : ¬ p = 0 := by omega
    have e1 : ¬ p = 1 := by omega
    simp only [rlF, if_neg e0, if_neg e1, if_neg h2, oAt_old o (show (p - 3) / 2 < os.length by omega)]
theorem rlC_push (os : List Ro) (o : Ro) : rlC (os ++ [o]) = rlC os ++ (rcC o.r o.sv o.dv).toList := by
  unfold rlC
  simp
/-- A list of records in memory of its own, between two places. -/
structure Rl (w : World) (lo : Nat) (v : Value) (os : List Ro) : Prop where
  fam : Fam (fun _ => True) 0 w lo (3 + 2 * os.length) (rlF v os)
  sml : ∀ i, i < os.length → (oAt os i).r.data.length ≤ 65536 ∧ (oAt os i).r.spans.length ≤ 500
theorem Rl.start (w : World) (lo : Nat) : Rl w lo (.slice none 0 0) [] := by
  refine ⟨⟨fun p hp => ?_, fun p q k hp hq h1 h2 => ?_, fun p k hp hk => .inl trivial⟩, fun i hi => by simp at hi⟩
  · have : p = 0 ∨ p = 1 ∨ p = 2 := by simp at hp; omega
    rcases this with rfl | rfl | rfl <;> exact World.ownsRow_nil _ _ _ _
  · have : p = 0 ∨ p = 1 ∨ p = 2 := by simp at hp; omega
    rcases this with rfl | rfl | rfl <;> cases h1
theorem Rl.keep {w w' : World} {lo : Nat} {v : Value} {os : List Ro} (h : Rl w lo v os) (hb : Below w.heap.size w w') : Rl w' lo v os := ⟨h.fam.keep hb, h.sml⟩
theorem Rl.lt {w : World} {lo : Nat} {v : Value} {os : List Ro} (h : Rl w lo v os) {p k : Nat} (hp : p < 3 + 2 * os.length) (hk : (rlF v os p).v.ownBlock = some k) : lo ≤ k ∧ k < w.heap.size := (h.fam.own p hp).lt k hk
theorem Rl.row {w : World} {lo : Nat} {v : Value} {os : List Ro} (h : Rl w lo v os) : w.ownsRow lo 81 11 v os.length (rlC os) := h.fam.own 2 (by omega)
/-- One record more: its lists lie in blocks that are new, and the list grows. -/
theorem Rl.push {w w1 w2 : World} {lo : Nat} {v v' : Value} {os : List Ro} (h : Rl w lo v os) (hlo : lo ≤ w.heap.size) (hb : Below w.heap.size w w1) (o : Ro)
    (hs : C.SOwn w1 w.heap.size o.sv o.r.spans) (hd : w1.ownsRow w.heap.size 5 1 o.dv o.r.data.length (o.r.data.map (Value.int .u8))) (hne : ∀ j, o.sv.ownBlock = some j → o.dv.ownBlock ≠ some j)
    (hsm : o.r.data.length ≤ 65536 ∧ o.r.spans.length ≤ 500)
    (hg : w1.grownBy w2 v.ownBlock) (hr : w2.ownsRow lo 81 11 v' (os.length + 1) (rlC os ++ (rcC o.r o.sv o.dv).toList)) (hf : ∀ j, v'.ownBlock = some j → v.ownBlock = some j ∨ w1.heap.size ≤ j) : Rl w2 lo v' (os ++ [o]) := by
  have hvlt : ∀ k, v.ownBlock = some k → k < w.heap.size := fun k hk => (h.lt (p := 2) (by omega) hk).2
  have hs2 : C.SOwn w2 w.heap.size o.sv o.r.spans := own_keep6 hs hg (fun k hk e => by have := hvlt k e; have := (World.ownsRow.lt hs k hk).1; omega)
  have hd2 : w2.ownsRow w.heap.size 5 1 o.dv o.r.data.length (o.r.data.map (Value.int .u8)) := own_keep6 hd hg (fun k hk e => by have := hvlt k e; have := (hd.lt k hk).1; omega)
  have hz := hb.size
  -- where the block of each row lies
  have hpl : ∀ p k, p < 3 + 2 * (os ++ [o]).length → (rlF v' (os ++ [o]) p).v.ownBlock = some k → (p = 2 ∧ v'.ownBlock = some k) ∨ (p ≠ 2 ∧ p < 3 + 2 * os.length ∧ (rlF v os p).v.ownBlock = some k ∧ k < w.heap.size) ∨ (p = 3 + 2 * os.length ∧ o.dv.ownBlock = some k ∧ w.heap.size ≤ k ∧ k < w1.heap.size) ∨ (p = 4 + 2 * os.length ∧ o.sv.ownBlock = some k ∧ w.heap.size ≤ k ∧ k < w1.heap.size) := by
    intro p k hp hk
    simp only [List.length_append, List.length_cons, List.length_nil] at hp
    by_cases e2 : p = 2
    · subst e2; exact .inl ⟨rfl, hk⟩
    · by_cases e : p < 3 + 2 * os.length
      · rw [rlF_old o e e2 (v := v)] at hk
        exact .inr (.inl ⟨e2, e, hk, (h.lt e hk).2⟩)
      · by_cases e3 : p = 3 + 2 * os.length
        · subst e3
          rw [rlF_d, oAt_new] at hk
          exact .inr (.inr (.inl ⟨rfl, hk, hd.lt k hk⟩))
        · obtain rfl : p = 4 + 2 * os.length := by omega
          rw [rlF_s, oAt_new] at hk
          exact .inr (.inr (.inr ⟨rfl, hk, World.ownsRow.lt hs k hk⟩))
  refine ⟨⟨fun p hp => ?_, fun p q k hp hq h1 h2 => ?_, fun p k hp hk => .inl trivial⟩, fun i hi => ?_⟩
  · simp only [List.length_append, List.length_cons, List.length_nil] at hp
    by_cases e2 : p = 2
    · subst e2
      rw [rlF_2, rlC_push]
      simpa using hr
    · by_cases e : p < 3 + 2 * os.length
      · rw [rlF_old o e e2 (v := v)]
        exact own_keep6 (own_below6 (h.fam.own p e) hb) hg (fun k hk e3 => e2 (h.fam.sep p 2 k e (by omega) hk e3))
      · by_cases e3 : p = 3 + 2 * os.length
        · subst e3
          rw [rlF_d, oAt_new]
          exact own_lower hd2 hlo
        · obtain rfl : p = 4 + 2 * os.length := by omega
          rw [rlF_s, oAt_new]
          exact own_lower hs2 hlo
  · rcases hpl p k hp h1 with ⟨rfl, a⟩ | ⟨a2, a1, a, a3⟩ | ⟨rfl, a, a1, a2⟩ | ⟨rfl, a, a1, a2⟩ <;> rcases hpl q k hq h2 with ⟨rfl, b⟩ | ⟨b2, b1, b, b3⟩ | ⟨rfl, b, b1, b2⟩ | ⟨rfl, b, b1, b2⟩
    · rfl
    · rcases hf k a with c | c
      · exact absurd (h.fam.sep 2 q k (by omega) b1 c b).symm b2
      · omega
    · rcases hf k a with c | c
      · have := hvlt k c; omega
      · omega
    · rcases hf k a with c | c
      · have := hvlt k c; omega
      · omega
    · rcases hf k b with c | c
      · exact absurd (h.fam.sep p 2 k a1 (by omega) a c) a2
      · omega
    · exact h.fam.sep p q k a1 b1 a b
    · omega
    · omega
    · rcases hf k b with c | c
      · have := hvlt k c; omega
      · omega
    · omega
    · rfl
    · exact absurd a (hne k b)
    · rcases hf k b with c | c
      · have := hvlt k c; omega
      · omega
    · omega
    · exact absurd b (hne k a)
    · rfl
  · simp only [List.length_append, List.length_cons, List.length_nil] at hi
    by_cases e : i < os.length
    · rw [oAt_old o e]; exact h.sml i e
    · obtain rfl : i = os.length := by omega
      rw [oAt_new]; exact hsm
theorem oAt_get {os : List Ro} {i : Nat} (h : i < os.length) : oAt os i = os[i] := by
  unfold oAt
  rw [List.getD_eq_getElem?_getD, List.getElem?_eq_getElem h]; rfl
theorem rlC_at : ∀ {os : List Ro} {i : Nat}, i < os.length → ∀ j u, (rcC (oAt os i).r (oAt os i).sv (oAt os i).dv)[j]? = some u → (rlC os)[i * 11 + j]? = some u
  | [], i, hi, j, u, hj => by simp at hi
  | o :: os, 0, hi, j, u, hj => by
    have hj2 : j < 11 := (Array.getElem?_eq_some_iff.mp hj).1
    unfold rlC
    rw [List.flatMap_cons, List.getElem?_append_left (by simp; omega)]
    simpa [oAt] using hj
  | o :: os, i + 1, hi, j, u, hj => by
    have ih := rlC_at (os := os) (i := i) (by simpa using hi) j u (by simpa [oAt] using hj)
    unfold rlC at ih ⊢
    rw [List.flatMap_cons, List.getElem?_append_right (by simp; omega), ← ih]
    congr 1
    simp
    omega
theorem Rl.rlin {w : World} {lo : Nat} {v : Value} {os : List Ro} (h : Rl w lo v os) : ∃ a c, v = .slice a os.length c ∧ RLin w a (os.map Ro.r) := by
  obtain ⟨a, c, rfl⟩ := own_sl h.row
  refine ⟨a, c, rfl, ?_⟩
  by_cases h0 : os = []
  · subst h0; exact .inl rfl
  · have hl : 0 < os.length := List.length_pos_iff.mpr h0
    obtain ⟨g, cap, hv⟩ := C.own_some h.row hl
    simp only [Value.slice.injEq] at hv
    obtain ⟨rfl, _, rfl⟩ := hv
    refine .inr ⟨g, 0, rfl, fun i r hr => ?_⟩
    have hi : i < os.length := by
      rcases Nat.lt_or_ge i os.length with q | q
      · exact q
      · rw [List.getElem?_eq_none (by simpa using q)] at hr; cases hr
    have hrr : r = (oAt os i).r := by
      rw [List.getElem?_map, List.getElem?_eq_getElem hi] at hr
      simp at hr
      rw [oAt_get hi, hr]
    subst hrr
    have hd := h.fam.own (3 + 2 * i) (by omega)
    have hs := h.fam.own (4 + 2 * i) (by omega)
    rw [rlF_d] at hd
    rw [rlF_s] at hs
    have hsm := h.sml i hi
    refine ⟨(oAt os i).sa, (oAt os i).da, (oAt os i).sc, (oAt os i).dc, fun j u hj => ?_, own_rin hs hd (by omega)⟩
    have hj2 : j < 11 := (Array.getElem?_eq_some_iff.mp hj).1
    rw [Nat.zero_add, h.row.cellAt _ (by omega)]
    exact rlC_at hi j u hj
/-- For Owned. -/
theorem Rl.spd {w : World} {lo hi : Nat} {a : Option Addr} {c : Nat} {os : List Ro} (h : Rl w lo (.slice a os.length c) os) (hh : ∀ p k, p < 3 + 2 * os.length → (rlF (.slice a os.length c) os p).v.ownBlock = some k → k < hi) :
    Spd (fun g => lo ≤ g ∧ g < hi) w w lo os.length ⟨81, 11, .slice a os.length c, os.length, rlC os⟩ (oAt os) 0 (rlF (.slice a os.length c) os) :=
  ⟨⟨h.fam.own, h.fam.sep, fun p k hp hk => .inl ⟨(h.lt hp hk).1, hh p k hp hk⟩⟩, rfl, rfl, rfl, fun i hi => by omega, fun i _ _ => ⟨rlF_d _ _ _, rlF_s _ _ _⟩, Kps.refl _ _⟩
theorem Rl.same {w w' : World} {lo : Nat} {v : Value} {os : List Ro} (h : Rl w lo v os) (hg : ∀ p k, p < 3 + 2 * os.length → (rlF v os p).v.ownBlock = some k → w'.heap[k]? = w.heap[k]?) : Rl w' lo v os :=
  ⟨⟨fun p hp => own_same (h.fam.own p hp) (fun k hk => hg p k hp hk), h.fam.sep, h.fam.new⟩, h.sml⟩
end Go.Proofs.YtllhbhogfffedaaGreatDoor
