import Derived.Test.YtjolflpmeodnaagDoorRcRat
import Derived.Test.YtjolflpmeodnaagDoorRcLst
import Derived.Test.YtjolflpmeodnaagDoorRcScM
import Derived.Deep.RegionWith
import Derived.BigQuiet
import Derived.Maps.AppendAt
namespace Go.Proofs.YtjolflpmeodnaagDoor
open Go.RowKit
set_option linter.unusedVariables false
set_option linter.unusedSimpArgs false

abbrev o0 : Ro := ⟨rz0, none, none, 0, 0⟩
def oAt (os : List Ro) (i : Nat) : Ro := os.getD i o0
def rlC (os : List Ro) : List Value := os.flatMap fun o => (rcC o.r o.sv o.dv).toList
/-- The rows of a list of records: the list's own, and two of each record. -/
def rlF (v : Value) (os : List Ro) (p : Nat) : Rwo :=
  if p = 0 then ⟨25, 1, .slice none 0 0, 0, []⟩ else if p = 1 then ⟨24, 1, .slice none 0 0, 0, []⟩ else if p = 2 then ⟨27, 11, v, os.length, rlC os⟩
  else if (p - 3) % 2 = 0 then dRow (oAt os ((p - 3) / 2)).dv (oAt os ((p - 3) / 2)).r.data else sRow (oAt os ((p - 3) / 2)).sv (oAt os ((p - 3) / 2)).r.spans
theorem rlF_2 (v : Value) (os : List Ro) : rlF v os 2 = ⟨27, 11, v, os.length, rlC os⟩ := rfl
theorem rlF_d (v : Value) (os : List Ro) (i : Nat) : rlF v os (3 + 2 * i) = dRow (oAt os i).dv (oAt os i).r.data := by
  unfold rlF
  rw [if_neg (by omega), if_neg (by omega), if_neg (by omega), if_pos (by omega), show (3 + 2 * i - 3) / 2 = i by omega]
theorem rlF_s (v : Value) (os : List Ro) (i : Nat) : rlF v os (4 + 2 * i) = sRow (oAt os i).sv (oAt os i).r.spans := by
  unfold rlF
  rw [if_neg (by omega), if_neg (by omega), if_neg (by omega), if_neg (by omega), show (4 + 2 * i - 3) / 2 = i by omega]
theorem oAt_old {os : List Ro} {i : Nat} (o : Ro) (h : i < os.length) : oAt (os ++ [o]) i = oAt os i := by
  unfold oAt
  rw [List.getD_eq_getElem?_getD, List.getD_eq_getElem?_getD, List.getElem?_append_left h]
theorem oAt_new (os : List Ro) (o : Ro) : oAt (os ++ [o]) os.length = o := by
  unfold oAt
  rw [List.getD_eq_getElem?_getD, List.getElem?_append_right (Nat.le_refl _), Nat.sub_self]
  rfl
theorem rlF_old {v v' : Value} {os : List Ro} (o : Ro) {p : Nat} (h : p < 3 + 2 * os.length) (h2 : p ≠ 2) : rlF v' (os ++ [o]) p = rlF v os p := by
  by_cases h3 : p < 3
  · have : p = 0 ∨ p = 1 := by omega
    rcases this with rfl | rfl <;> rfl
  · have e0 : ¬ p = 0 := by omega
    have e1 : ¬ p = 1 := by omega
    simp only [rlF, if_neg e0, if_neg e1, if_neg h2, oAt_old o (show (p - 3) / 2 < os.length by omega)]
theorem rlC_push (os : List Ro) (o : Ro) : rlC (os ++ [o]) = rlC os ++ (rcC o.r o.sv o.dv).toList := by
  unfold rlC
  simp
/-- A list of records in memory of its own, between two places. -/
structure Rl (w : World) (lo : Nat) (v : Value) (os : List Ro) : Prop where
  fam : Fam (fun _ => True) 0 w lo (3 + 2 * os.length) (rlF v os)
  sml : ∀ i, i < os.length → (oAt os i).r.data.length ≤ 65536 ∧ (oAt os i).r.spans.length ≤ 500
theorem Rl.start (w : World) (lo : Nat) : Rl w lo (.slice none 0 0) [] := by
  refine ⟨⟨fun p hp => ?_, fun p q k hp hq h1 h2 => ?_, fun p k hp hk => .inl trivial⟩, fun i hi => by simp at hi⟩
  · have : p = 0 ∨ p = 1 ∨ p = 2 := by simp at hp; omega
    rcases this with rfl | rfl | rfl <;> exact World.ownsRow_nil _ _ _ _
  · have : p = 0 ∨ p = 1 ∨ p = 2 := by simp at hp; omega
    rcases this with rfl | rfl | rfl <;> cases h1
theorem Rl.keep {w w' : World} {lo : Nat} {v : Value} {os : List Ro} (h : Rl w lo v os) (hb : Below w.heap.size w w') : Rl w' lo v os := ⟨h.fam.keep hb, h.sml⟩
theorem Rl.lt {w : World} {lo : Nat} {v : Value} {os : List Ro} (h : Rl w lo v os) {p k : Nat} (hp : p < 3 + 2 * os.length) (hk : (rlF v os p).v.ownBlock = some k) : lo ≤ k ∧ k < w.heap.size := (h.fam.own p hp).lt k hk
theorem Rl.row {w : World} {lo : Nat} {v : Value} {os : List Ro} (h : Rl w lo v os) : w.ownsRow lo 27 11 v os.length (rlC os) := h.fam.own 2 (by omega)
/-- One record more: its lists lie in blocks that are new, and the list grows. -/
theorem Rl.push {w w1 w2 : World} {lo : Nat} {v v' : Value} {os : List Ro} (h : Rl w lo v os) (hlo : lo ≤ w.heap.size) (hb : Below w.heap.size w w1) (o : Ro)
    (hs : C.SOwn w1 w.heap.size o.sv o.r.spans) (hd : w1.ownsRow w.heap.size 5 1 o.dv o.r.data.length (o.r.data.map (Value.int .u8))) (hne : ∀ j, o.sv.ownBlock = some j → o.dv.ownBlock ≠ some j)
    (hsm : o.r.data.length ≤ 65536 ∧ o.r.spans.length ≤ 500)
    (hg : w1.grownBy w2 v.ownBlock) (hr : w2.ownsRow lo 27 11 v' (os.length + 1) (rlC os ++ (rcC o.r o.sv o.dv).toList)) (hf : ∀ j, v'.ownBlock = some j → v.ownBlock = some j ∨ w1.heap.size ≤ j) : Rl w2 lo v' (os ++ [o]) := by
  have hvlt : ∀ k, v.ownBlock = some k → k < w.heap.size := fun k hk => (h.lt (p := 2) (by omega) hk).2
  have hs2 : C.SOwn w2 w.heap.size o.sv o.r.spans := own_keep6 hs hg (fun k hk e => by have := hvlt k e; have := (World.ownsRow.lt hs k hk).1; omega)
  have hd2 : w2.ownsRow w.heap.size 5 1 o.dv o.r.data.length (o.r.data.map (Value.int .u8)) := own_keep6 hd hg (fun k hk e => by have := hvlt k e; have := (hd.lt k hk).1; omega)
  have hz := hb.size
  -- where the block of each row lies
  have hpl : ∀ p k, p < 3 + 2 * (os ++ [o]).length → (rlF v' (os ++ [o]) p).v.ownBlock = some k → (p = 2 ∧ v'.ownBlock = some k) ∨ (p ≠ 2 ∧ p < 3 + 2 * os.length ∧ (rlF v os p).v.ownBlock = some k ∧ k < w.heap.size) ∨ (p = 3 + 2 * os.length ∧ o.dv.ownBlock = some k ∧ w.heap.size ≤ k ∧ k < w1.heap.size) ∨ (p = 4 + 2 * os.length ∧ o.sv.ownBlock = some k ∧ w.heap.size ≤ k ∧ k < w1.heap.size) := by
    intro p k hp hk
    simp only [List.length_append, List.length_cons, List.length_nil] at hp
    by_cases e2 : p = 2
    · subst e2; exact .inl ⟨rfl, hk⟩
    · by_cases e : p < 3 + 2 * os.length
      · rw [rlF_old o e e2 (v := v)] at hk
        exact .inr (.inl ⟨e2, e, hk, (h.lt e hk).2⟩)
      · by_cases e3 : p = 3 + 2 * os.length
        · subst e3
          rw [rlF_d, oAt_new] at hk
          exact .inr (.inr (.inl ⟨rfl, hk, hd.lt k hk⟩))
        · obtain rfl : p = 4 + 2 * os.length := by omega
          rw [rlF_s, oAt_new] at hk
          exact .inr (.inr (.inr ⟨rfl, hk, World.ownsRow.lt hs k hk⟩))
  refine ⟨⟨fun p hp => ?_, fun p q k hp hq h1 h2 => ?_, fun p k hp hk => .inl trivial⟩, fun i hi => ?_⟩
  · simp only [List.length_append, List.length_cons, List.length_nil] at hp
    by_cases e2 : p = 2
    · subst e2
      rw [rlF_2, rlC_push]
      simpa using hr
    · by_cases e : p < 3 + 2 * os.length
      · rw [rlF_old o e e2 (v := v)]
        exact own_keep6 (own_below6 (h.fam.own p e) hb) hg (fun k hk e3 => e2 (h.fam.sep p 2 k e (by omega) hk e3))
      · by_cases e3 : p = 3 + 2 * os.length
        · subst e3
          rw [rlF_d, oAt_new]
          exact own_lower hd2 hlo
        · obtain rfl : p = 4 + 2 * os.length := by omega
          rw [rlF_s, oAt_new]
          exact own_lower hs2 hlo
  · rcases hpl p k hp h1 with ⟨rfl, a⟩ | ⟨a2, a1, a, a3⟩ | ⟨rfl, a, a1, a2⟩ | ⟨rfl, a, a1, a2⟩ <;> rcases hpl q k hq h2 with ⟨rfl, b⟩ | ⟨b2, b1, b, b3⟩ | ⟨rfl, b, b1, b2⟩ | ⟨rfl, b, b1, b2⟩
    · rfl
    · rcases hf k a with c | c
      · exact absurd (h.fam.sep 2 q k (by omega) b1 c b).symm b2
      · omega
    · rcases hf k a with c | c
      · have := hvlt k c; omega
      · omega
    · rcases hf k a with c | c
      · have := hvlt k c; omega
      · omega
    · rcases hf k b with c | c
      · exact absurd (h.fam.sep p 2 k a1 (by omega) a c) a2
      · omega
    · exact h.fam.sep p q k a1 b1 a b
    · omega
    · omega
    · rcases hf k b with c | c
      · have := hvlt k c; omega
      · omega
    · omega
    · rfl
    · exact absurd a (hne k b)
    · rcases hf k b with c | c
      · have := hvlt k c; omega
      · omega
    · omega
    · exact absurd b (hne k a)
    · rfl
  · simp only [List.length_append, List.length_cons, List.length_nil] at hi
    by_cases e : i < os.length
    · rw [oAt_old o e]; exact h.sml i e
    · obtain rfl : i = os.length := by omega
      rw [oAt_new]; exact hsm
theorem oAt_get {os : List Ro} {i : Nat} (h : i < os.length) : oAt os i = os[i] := by
  unfold oAt
  rw [List.getD_eq_getElem?_getD, List.getElem?_eq_getElem h]; rfl
theorem rlC_at : ∀ {os : List Ro} {i : Nat}, i < os.length → ∀ j u, (rcC (oAt os i).r (oAt os i).sv (oAt os i).dv)[j]? = some u → (rlC os)[i * 11 + j]? = some u
  | [], i, hi, j, u, hj => by simp at hi
  | o :: os, 0, hi, j, u, hj => by
    have hj2 : j < 11 := (Array.getElem?_eq_some_iff.mp hj).1
    unfold rlC
    rw [List.flatMap_cons, List.getElem?_append_left (by simp; omega)]
    simpa [oAt] using hj
  | o :: os, i + 1, hi, j, u, hj => by
    have ih := rlC_at (os := os) (i := i) (by simpa using hi) j u (by simpa [oAt] using hj)
    unfold rlC at ih ⊢
    rw [List.flatMap_cons, List.getElem?_append_right (by simp; omega), ← ih]
    congr 1
    simp
    omega
theorem Rl.rlin {w : World} {lo : Nat} {v : Value} {os : List Ro} (h : Rl w lo v os) : ∃ a c, v = .slice a os.length c ∧ RLin w a (os.map Ro.r) := by
  obtain ⟨a, c, rfl⟩ := own_sl h.row
  refine ⟨a, c, rfl, ?_⟩
  by_cases h0 : os = []
  · subst h0; exact .inl rfl
  · have hl : 0 < os.length := List.length_pos_iff.mpr h0
    obtain ⟨g, cap, hv⟩ := C.own_some h.row hl
    simp only [Value.slice.injEq] at hv
    obtain ⟨rfl, _, rfl⟩ := hv
    refine .inr ⟨g, 0, rfl, fun i r hr => ?_⟩
    have hi : i < os.length := by
      rcases Nat.lt_or_ge i os.length with q | q
      · exact q
      · rw [List.getElem?_eq_none (by simpa using q)] at hr; cases hr
    have hrr : r = (oAt os i).r := by
      rw [List.getElem?_map, List.getElem?_eq_getElem hi] at hr
      simp at hr
      rw [oAt_get hi, hr]
    subst hrr
    have hd := h.fam.own (3 + 2 * i) (by omega)
    have hs := h.fam.own (4 + 2 * i) (by omega)
    rw [rlF_d] at hd
    rw [rlF_s] at hs
    have hsm := h.sml i hi
    refine ⟨(oAt os i).sa, (oAt os i).da, (oAt os i).sc, (oAt os i).dc, fun j u hj => ?_, own_rin hs hd (by omega)⟩
    have hj2 : j < 11 := (Array.getElem?_eq_some_iff.mp hj).1
    rw [Nat.zero_add, h.row.cellAt _ (by omega)]
    exact rlC_at hi j u hj
/-- For Owned. -/
theorem Rl.spd {w : World} {lo hi : Nat} {a : Option Addr} {c : Nat} {os : List Ro} (h : Rl w lo (.slice a os.length c) os) (hh : ∀ p k, p < 3 + 2 * os.length → (rlF (.slice a os.length c) os p).v.ownBlock = some k → k < hi) :
    Spd (fun g => lo ≤ g ∧ g < hi) w w lo os.length ⟨27, 11, .slice a os.length c, os.length, rlC os⟩ (oAt os) 0 (rlF (.slice a os.length c) os) :=
  ⟨⟨h.fam.own, h.fam.sep, fun p k hp hk => .inl ⟨(h.lt hp hk).1, hh p k hp hk⟩⟩, rfl, rfl, rfl, fun i hi => by omega, fun i _ _ => ⟨rlF_d _ _ _, rlF_s _ _ _⟩, Kps.refl _ _⟩
theorem Rl.same {w w' : World} {lo : Nat} {v : Value} {os : List Ro} (h : Rl w lo v os) (hg : ∀ p k, p < 3 + 2 * os.length → (rlF v os p).v.ownBlock = some k → w'.heap[k]? = w.heap[k]?) : Rl w' lo v os :=
  ⟨⟨fun p hp => own_same (h.fam.own p hp) (fun k hk => hg p k hp hk), h.fam.sep, h.fam.new⟩, h.sml⟩
end Go.Proofs.YtjolflpmeodnaagDoor

namespace Go.Proofs.YtjolflpmeodnaagDoor
open Go.RowKit
set_option linter.unusedVariables false
set_option linter.unusedSimpArgs false

theorem fsR_short {zs : List Int} (h : zs.length < 8) : fsR zs = (rz0, 0) := by unfold fsR; rw [if_pos h]
theorem fsR_long {zs : List Int} (h : ¬ zs.length < 8) (h1 : 131072 < vl4 zs ∨ (zs.length : Int) - 8 < vl4 zs) : fsR zs = (rz0, 0) := by unfold fsR; rw [if_neg h, if_pos h1]
theorem fsR_sum {zs : List Int} {k : Nat} (h : ¬ zs.length < 8) (h1 : ¬ (131072 < vl4 zs ∨ (zs.length : Int) - 8 < vl4 zs)) (hk : vl4 zs = k) (h2 : ((crs ((zs.drop 8).take k) : Nat) : Int) ≠ vl4 (zs.drop 4)) : fsR zs = (rz0, 0) := by
  unfold fsR; rw [if_neg h, if_neg h1, if_pos (by rw [hk]; exact h2)]
theorem fsR_none {zs : List Int} {k : Nat} (hk : vl4 zs = k) (h3 : readP ((zs.drop 8).take k) = none) : fsR zs = (rz0, 0) := by
  unfold fsR
  split
  · rfl
  split
  · rfl
  split
  · rfl
  rw [hk, Int.toNat_natCast, h3]
theorem fsR_some {zs : List Int} {k : Nat} {r : Rc} (h : ¬ zs.length < 8) (h1 : ¬ (131072 < vl4 zs ∨ (zs.length : Int) - 8 < vl4 zs)) (hk : vl4 zs = k) (h2 : ((crs ((zs.drop 8).take k) : Nat) : Int) = vl4 (zs.drop 4)) (h3 : readP ((zs.drop 8).take k) = some r) : fsR zs = (r, 8 + (k : Int)) := by
  unfold fsR
  rw [if_neg h, if_neg h1, hk, Int.toNat_natCast, if_neg (by rw [h2]; simp), h3]

/-- word of the bytes at a place. -/
theorem word_at (g off n c : Nat) (zs : List Int) (w : World) (hb : Bytey zs) (hn : 4 ≤ n) (h4 : 4 ≤ zs.length) (hz : ∀ i, i < zs.length → w.cell? ⟨g, off + i, none⟩ = some (.int .u8 (zs.getD i 0))) :
    Calls Tryd.prog 43 #[.slice (some ⟨g, off, none⟩) n c] w fun e w' => e = .returned (.int .u32 (vl4 zs)) ∧ Below w.heap.size w w' :=
  word_any g off n c (zs.getD 0 0) (zs.getD 1 0) (zs.getD 2 0) (zs.getD 3 0) w hn (bytAt hb 0) (bytAt hb 1) (bytAt hb 2) (bytAt hb 3) (hz 0 (by omega)) (hz 1 (by omega)) (hz 2 (by omega)) (hz 3 (by omega))

set_option maxRecDepth 100000 in
set_option maxHeartbeats 4000000 in
theorem first_short (a : Option Addr) (zs : List Int) (n c : Nat) (w : World) (hl : zs.length = n) (hn : n < 8) :
    Calls Tryd.prog 25 #[.slice a n c] w (RdPost (fsR zs) w) := by
  rw [fsR_short (by omega)]
  have hn' : (n : Int) < 8 := by omega
  go_enter Tryd.func25, Tryd.ntmps25
  go_wp2_with fail
  refine bodyPost_ret (v := .tuple #[.agg (rcC rz0 (.slice none 0 0) (.slice none 0 0)), .int .i64 0]) (by simp [results, Tryd.results25, go_sem, rcC]) rfl ?_
  exact ⟨none, none, 0, 0, rfl, C.SOwn.nil _ _, World.ownsRow_nil _ _ _ _, fun j hj => by simp [Value.ownBlock] at hj, (Below.refl _ _).alloc (Nat.le_refl _) _⟩

set_option maxRecDepth 100000 in
set_option maxHeartbeats 4000000 in
theorem first_long (g off : Nat) (zs : List Int) (n c : Nat) (w : World) (hT : Tab6 w) (hb : Bytey zs) (hl : zs.length = n) (hnc : n ≤ c) (hc : c ≤ 9223372036854775807) (hn : 8 ≤ n) (hm : n ≤ 1099511627776) (hz : ∀ i, i < zs.length → w.cell? ⟨g, off + i, none⟩ = some (.int .u8 (zs.getD i 0))) :
    Calls Tryd.prog 25 #[.slice (some ⟨g, off, none⟩) n c] w (RdPost (fsR zs) w) := by
  have hn8 : ¬ (n : Int) < 8 := by omega
  have hc4 : ¬ c = 4 := by omega
  have HB1 : Hid (Below w.heap.size w (w.alloc (rcO rz0 (.slice none 0 0) (.slice none 0 0)))) := (Below.refl _ _).alloc (Nat.le_refl _) _
  have HZ1 : Hid ((w.alloc (rcO rz0 (.slice none 0 0) (.slice none 0 0))).heap[w.heap.size]? = some (rcO rz0 (.slice none 0 0) (.slice none 0 0))) := heap_new6 w _
  have HW1 : Hid (∀ W, Below w.heap.size w W → Calls Tryd.prog 43 #[.slice (some ⟨g, off, none⟩) n c] W fun e w' => e = .returned (.int .u32 (vl4 zs)) ∧ Below W.heap.size W w') := fun W hW => word_at g off n c zs W hb (by omega) (by omega) (fun i hi => C.cell_below (hz i hi) hW)
  have HW2 : Hid (∀ W, Below w.heap.size w W → Calls Tryd.prog 43 #[.slice (some ⟨g, off + 4, none⟩) (n - 4) (c - 4)] W fun e w' => e = .returned (.int .u32 (vl4 (zs.drop 4))) ∧ Below W.heap.size W w') := fun W hW => word_at g (off + 4) (n - 4) (c - 4) (zs.drop 4) W (bytDrop hb 4) (by omega) (by rw [List.length_drop]; omega) (fun i hi => by
    rw [List.length_drop] at hi
    have h1 := C.cell_below (hz (4 + i) (by omega)) hW
    rw [List.getD_eq_getElem?_getD, List.getElem?_drop, ← List.getD_eq_getElem?_getD, show off + 4 + i = off + (4 + i) by omega]
    exact h1)
  obtain ⟨V, hV⟩ : ∃ V : Nat, vl4 zs = V := ⟨(vl4 zs).toNat, by have := vl4_bd hb; omega⟩
  have hVb : V < 4294967296 := by have := vl4_bd hb; omega
  obtain ⟨U, hU⟩ : ∃ U : Int, vl4 (zs.drop 4) = U := ⟨_, rfl⟩
  rw [hV] at HW1
  rw [hU] at HW2
  have hwV : IntKind.i64.wrap (V : Int) = V := by simp [IntKind.wrap, IntKind.bits, IntKind.signed]; omega
  obtain ⟨m, hmn⟩ : ∃ m, m = n - 8 := ⟨_, rfl⟩
  obtain ⟨d, hdc⟩ : ∃ d, d = c - 8 := ⟨_, rfl⟩
  have HZZ : Hid (∀ W, Below w.heap.size w W → V ≤ m → Lies .u8 W (some ⟨g, off + 8, none⟩) ((zs.drop 8).take V)) := fun W hW hVm => .inr ⟨g, off + 8, rfl, fun i hi => by
    rw [List.length_take, List.length_drop] at hi
    have h1 := C.cell_below (hz (8 + i) (by omega)) hW
    rw [List.getD_eq_getElem?_getD, List.getElem?_take_of_lt (by omega), List.getElem?_drop, ← List.getD_eq_getElem?_getD, show off + 8 + i = off + (8 + i) by omega]
    exact h1⟩
  have HMN : Hid (m = n - 8) := hmn
  have HDC : Hid (d = c - 8) := hdc
  have HV : Hid (vl4 zs = V) := hV
  have HU : Hid (vl4 (zs.drop 4) = U) := hU
  have HT : Hid (Tab6 w) := hT
  have HBY : Hid (Bytey ((zs.drop 8).take V)) := bytTake (bytDrop hb 8) V
  have HLN : Hid (V ≤ m → ((zs.drop 8).take V).length = V) := fun h => by rw [List.length_take, List.length_drop]; omega
  have HNL : Hid (¬ zs.length < 8 ∧ (zs.length : Int) - 8 = (m : Int)) := by constructor <;> omega
  have hmb : m ≤ 1099511627776 := by omega
  have hmd : m ≤ d := by omega
  have hdb : d ≤ 9223372036854775807 := by omega
  clear hmn hdc hV hU hT hz hb hl
  go_enter Tryd.func25, Tryd.ntmps25
  go_upto_region 3 with fail
  go_cut [4, 5, 6] from 13 to 20 (fun q4 q5 q6 wx => q4 = .int .i64 V ∧ q5 = .int .u32 U ∧ (∃ a', q6 = .slice a' m d ∧ Hid (∀ W, Below w.heap.size w W → V ≤ m → Lies .u8 W a' ((zs.drop 8).take V))) ∧ Hid (Below w.heap.size w wx) ∧ Hid (wx.heap[w.heap.size]? = some (rcO rz0 (.slice none 0 0) (.slice none 0 0))))
  case first =>
    by_cases hc8 : c = 8
    · subst hc8
      obtain rfl : n = 8 := by omega
      go_region_with (first
        | (go_at_call_of 43 (Value.slice (some ⟨g, off, none⟩) 8 8); refine (HW1.out _ (by first | exact HB1.out | exact HB1.out.drew)).mono ?_; rintro e w1 ⟨rfl, hb1⟩; have HB2 : Hid (Below w.heap.size w w1) := (by first | exact HB1.out.trans (hb1.mono HB1.out.size) | exact HB1.out.drew.trans (hb1.mono HB1.out.size)); have HZ2 : Hid (w1.heap[w.heap.size]? = some (rcO rz0 (.slice none 0 0) (.slice none 0 0))) := (hb1.block _ (by simp)).trans HZ1.out; clear hb1)
        | (go_at_call 43; refine (HW2.out _ HB2.out).mono ?_; rintro e w2 ⟨rfl, hb2⟩; have HB3 : Hid (Below w.heap.size w w2) := HB2.out.trans (hb2.mono HB2.out.size); have HZ3 : Hid (w2.heap[w.heap.size]? = some (rcO rz0 (.slice none 0 0) (.slice none 0 0))) := (hb2.block _ (Array.getElem?_eq_some_iff.mp HZ2.out).1).trans HZ2.out; clear hb2))
      all_goals
        go_wp2_with fail
        go_meet
        refine ⟨?_, rfl, ⟨some ⟨g, off, none⟩, ?_, fun W hW hVm => ?_⟩, HB3, HZ3⟩
        rotate_left 2
        · left
          have : V = 0 := by have := HMN.out; omega
          rw [this]; rfl
        · first | rfl | exact congrArg (Value.int .i64) hwV
        · rw [HMN.out, HDC.out]
    · skip
      go_region_with (first
        | (go_at_call_of 43 (Value.slice (some ⟨g, off, none⟩) n c); refine (HW1.out _ (by first | exact HB1.out | exact HB1.out.drew)).mono ?_; rintro e w1 ⟨rfl, hb1⟩; have HB2 : Hid (Below w.heap.size w w1) := (by first | exact HB1.out.trans (hb1.mono HB1.out.size) | exact HB1.out.drew.trans (hb1.mono HB1.out.size)); have HZ2 : Hid (w1.heap[w.heap.size]? = some (rcO rz0 (.slice none 0 0) (.slice none 0 0))) := (hb1.block _ (by simp)).trans HZ1.out; clear hb1)
        | (go_at_call 43; refine (HW2.out _ HB2.out).mono ?_; rintro e w2 ⟨rfl, hb2⟩; have HB3 : Hid (Below w.heap.size w w2) := HB2.out.trans (hb2.mono HB2.out.size); have HZ3 : Hid (w2.heap[w.heap.size]? = some (rcO rz0 (.slice none 0 0) (.slice none 0 0))) := (hb2.block _ (Array.getElem?_eq_some_iff.mp HZ2.out).1).trans HZ2.out; clear hb2))
      all_goals
        go_wp2_with fail
        go_meet
        refine ⟨?_, rfl, ⟨_, ?_, HZZ⟩, HB3, HZ3⟩
        · first | rfl | exact congrArg (Value.int .i64) hwV
        · rw [HMN.out, HDC.out]
  case rest =>
    obtain ⟨rfl, rfl, ⟨a', rfl, HZ⟩, HB3, HZ3⟩ := hcut
    clear HW1 HW2 HB1 HZ1 HZZ hn8 hc4 hwV hnc hc hn hm
    by_cases h1 : (131072 : Int) < (V : Int)
    · have HQ : Hid (fsR zs = (rz0, 0)) := fsR_long HNL.out.1 (.inl (by rw [HV.out]; exact h1))
      obtain ⟨y0, y1, y2, y3, y4, y5, y6, y7, y8, y9, y10⟩ := rc_cells HZ3.out
      have fz := rc_frozen HZ3.out
      go_wp2_with fail
      change bodyPost _ _ _ _ _ (rS wc w.heap.size rz0 (.slice none 0 0) (.slice none 0 0))
      have hlv := fun j => cell_of_row _ w.heap.size j _ _ _ (rS_heap wc w.heap.size rz0 rz0 (.slice none 0 0) (.slice none 0 0) _ _ HZ3.out)
      have hrg := rS_grown wc w.heap.size rz0 (.slice none 0 0) (.slice none 0 0)
      generalize rS wc w.heap.size rz0 (.slice none 0 0) (.slice none 0 0) = WF at *
      clear y0 y1 y2 y3 y4 y5 y6 y7 y8 y9 y10 fz
      refine bodyPost_ret (v := .tuple #[.agg (rcC rz0 (.slice none 0 0) (.slice none 0 0)), .int .i64 0]) (by simp [results, Tryd.results25, go_sem, rcC, hlv]) rfl ?_
      show RdPost (fsR zs) w _ _
      rw [HQ.out]
      exact ⟨none, none, 0, 0, rfl, C.SOwn.nil _ _, World.ownsRow_nil _ _ _ _, fun j hj => by simp [Value.ownBlock] at hj, HB3.out.grown hrg HB3.out.size (by simp)⟩
    · by_cases h2 : (m : Int) < (V : Int)
      · have HQ : Hid (fsR zs = (rz0, 0)) := fsR_long HNL.out.1 (.inr (by rw [HV.out, HNL.out.2]; exact h2))
        obtain ⟨y0, y1, y2, y3, y4, y5, y6, y7, y8, y9, y10⟩ := rc_cells HZ3.out
        have fz := rc_frozen HZ3.out
        go_wp2_with fail
        change bodyPost _ _ _ _ _ (rS wc w.heap.size rz0 (.slice none 0 0) (.slice none 0 0))
        have hlv := fun j => cell_of_row _ w.heap.size j _ _ _ (rS_heap wc w.heap.size rz0 rz0 (.slice none 0 0) (.slice none 0 0) _ _ HZ3.out)
        have hrg := rS_grown wc w.heap.size rz0 (.slice none 0 0) (.slice none 0 0)
        generalize rS wc w.heap.size rz0 (.slice none 0 0) (.slice none 0 0) = WF at *
        clear y0 y1 y2 y3 y4 y5 y6 y7 y8 y9 y10 fz
        refine bodyPost_ret (v := .tuple #[.agg (rcC rz0 (.slice none 0 0) (.slice none 0 0)), .int .i64 0]) (by simp [results, Tryd.results25, go_sem, rcC, hlv]) rfl ?_
        show RdPost (fsR zs) w _ _
        rw [HQ.out]
        exact ⟨none, none, 0, 0, rfl, C.SOwn.nil _ _, World.ownsRow_nil _ _ _ _, fun j hj => by simp [Value.ownBlock] at hj, HB3.out.grown hrg HB3.out.size (by simp)⟩
      · have HVM : Hid (V ≤ m) := by unfold Hid; omega
        have hVd : (V : Int) ≤ (d : Int) := by omega
        have HSU := fun W hW => sum_any a' ((zs.drop 8).take V) V d W HBY.out (HLN.out HVM.out) (by omega) (HZ.out W hW HVM.out)
        have HSUM : Hid (∀ W, Below w.heap.size w W → Calls Tryd.prog 24 #[.slice a' V d] W fun e w' => e = .returned (.int .u32 (crs ((zs.drop 8).take V) : Nat)) ∧ W = w') := HSU
        clear HSU
        obtain ⟨X, hX⟩ : ∃ X : Int, X = ((crs ((zs.drop 8).take V) : Nat) : Int) := ⟨_, rfl⟩
        have HX : Hid (X = ((crs ((zs.drop 8).take V) : Nat) : Int)) := hX
        rw [← hX] at HSUM
        clear hX
        have hNL : ¬ (131072 < vl4 zs ∨ (zs.length : Int) - 8 < vl4 zs) := by rw [HV.out, HNL.out.2]; omega
        have HNX : Hid (¬ (131072 < vl4 zs ∨ (zs.length : Int) - 8 < vl4 zs)) := hNL
        clear hNL
        by_cases h3 : X = U
        · have HRD := rread_any a' ((zs.drop 8).take V) V d wc (HT.out.below HB3.out (tab6_pos HT.out)) HBY.out (HLN.out HVM.out) (by omega) hdb (HZ.out wc HB3.out HVM.out)
          subst h3
          cases hq : readP ((zs.drop 8).take V) with
          | none =>
            have HQ : Hid (fsR zs = (rz0, 0)) := fsR_none HV.out hq
            have HQ2 : Hid (rdR ((zs.drop 8).take V) = (rz0, 61)) := by unfold Hid rdR; rw [if_neg (by rw [HLN.out HVM.out]; omega), hq]
            rw [HQ2.out] at HRD
            clear HQ2 hq
            go_upto_region 7 with (first | (go_at_call 24; refine (HSUM.out _ HB3.out).mono ?_; rintro e w' ⟨rfl, rfl⟩) | (go_at_call 9; refine HRD.mono ?_; rintro e w4 ⟨sa, da, sc, dc, rfl, hso, hdo, hpt, hb4⟩))
            have HB4 : Hid (Below w.heap.size w (w4.alloc (rcO rz0 (.slice sa 0 sc) (.slice da 0 dc)))) := (HB3.out.trans (hb4.mono HB3.out.size)).alloc (Nat.le_trans HB3.out.size hb4.size) _
            have HZ4 : Hid ((w4.alloc (rcO rz0 (.slice sa 0 sc) (.slice da 0 dc))).heap[w.heap.size]? = some (rcO rz0 (.slice none 0 0) (.slice none 0 0))) := (((Below.refl _ _).alloc (Nat.le_refl _) _).block _ (by have := (Array.getElem?_eq_some_iff.mp HZ3.out).1; have := hb4.size; omega)).trans ((hb4.block _ (Array.getElem?_eq_some_iff.mp HZ3.out).1).trans HZ3.out)
            clear hso hdo hpt hb4 HSUM HRD
            generalize w4.alloc (rcO rz0 (.slice sa 0 sc) (.slice da 0 dc)) = w5 at *
            obtain ⟨y0, y1, y2, y3, y4, y5, y6, y7, y8, y9, y10⟩ := rc_cells HZ4.out
            have fz := rc_frozen HZ4.out
            go_wp2_with fail
            change bodyPost _ _ _ _ _ (rS w5 w.heap.size rz0 (.slice none 0 0) (.slice none 0 0))
            have hlv := fun j => cell_of_row _ w.heap.size j _ _ _ (rS_heap w5 w.heap.size rz0 rz0 (.slice none 0 0) (.slice none 0 0) _ _ HZ4.out)
            have hrg := rS_grown w5 w.heap.size rz0 (.slice none 0 0) (.slice none 0 0)
            generalize rS w5 w.heap.size rz0 (.slice none 0 0) (.slice none 0 0) = WF at *
            clear y0 y1 y2 y3 y4 y5 y6 y7 y8 y9 y10 fz
            refine bodyPost_ret (v := .tuple #[.agg (rcC rz0 (.slice none 0 0) (.slice none 0 0)), .int .i64 0]) (by simp [results, Tryd.results25, go_sem, rcC, hlv]) rfl ?_
            show RdPost (fsR zs) w _ _
            rw [HQ.out]
            exact ⟨none, none, 0, 0, rfl, C.SOwn.nil _ _, World.ownsRow_nil _ _ _ _, fun j hj => by simp [Value.ownBlock] at hj, HB4.out.grown hrg HB4.out.size (by simp)⟩
          | some r =>
            have HQ : Hid (fsR zs = (r, 8 + (V : Int))) := fsR_some HNL.out.1 HNX.out HV.out (by rw [HU.out]; exact HX.out.symm) hq
            have HQ2 : Hid (rdR ((zs.drop 8).take V) = (r, 0)) := by unfold Hid rdR; rw [if_neg (by rw [HLN.out HVM.out]; omega), hq]
            rw [HQ2.out] at HRD
            clear HQ2 hq
            go_upto_region 7 with (first | (go_at_call 24; refine (HSUM.out _ HB3.out).mono ?_; rintro e w' ⟨rfl, rfl⟩) | (go_at_call 9; refine HRD.mono ?_; rintro e w4 ⟨sa, da, sc, dc, rfl, hso, hdo, hpt, hb4⟩))
            have hz3l := (Array.getElem?_eq_some_iff.mp HZ3.out).1
            have hs4 := hb4.size
            have HX4 : Hid ((w4.alloc (rcO r (.slice sa r.spans.length sc) (.slice da r.data.length dc))).heap[w4.heap.size]? = some (rcO r (.slice sa r.spans.length sc) (.slice da r.data.length dc))) := heap_new6 w4 _
            have HB4 : Hid (Below w.heap.size w (w4.alloc (rcO r (.slice sa r.spans.length sc) (.slice da r.data.length dc)))) := (HB3.out.trans (hb4.mono HB3.out.size)).alloc (Nat.le_trans HB3.out.size hs4) _
            have HZ4 : Hid ((w4.alloc (rcO r (.slice sa r.spans.length sc) (.slice da r.data.length dc))).heap[w.heap.size]? = some (rcO rz0 (.slice none 0 0) (.slice none 0 0))) := (((Below.refl _ _).alloc (Nat.le_refl _) _).block _ (by omega)).trans ((hb4.block _ hz3l).trans HZ3.out)
            have HS4 : Hid (C.SOwn (w4.alloc (rcO r (.slice sa r.spans.length sc) (.slice da r.data.length dc))) wc.heap.size (.slice sa r.spans.length sc) r.spans) := World.ownsRow.alloc hso _
            have HD4 : Hid ((w4.alloc (rcO r (.slice sa r.spans.length sc) (.slice da r.data.length dc))).ownsRow wc.heap.size 5 1 (.slice da r.data.length dc) r.data.length (r.data.map (Value.int .u8))) := hdo.alloc _
            have HPT : Hid (∀ j, (Value.slice sa r.spans.length sc).ownBlock = some j → (Value.slice da r.data.length dc).ownBlock ≠ some j) := hpt
            clear hso hdo hpt hb4 HSUM HRD
            generalize w4.alloc (rcO r (.slice sa r.spans.length sc) (.slice da r.data.length dc)) = w5 at *
            obtain ⟨x0, x1, x2, x3, x4, x5, x6, x7, x8, x9, x10⟩ := rc_cells HX4.out
            obtain ⟨y0, y1, y2, y3, y4, y5, y6, y7, y8, y9, y10⟩ := rc_cells HZ4.out
            have fz := rc_frozen HZ4.out
            go_wp2_with fail
            change bodyPost _ _ _ _ _ (rS w5 w.heap.size r (.slice sa r.spans.length sc) (.slice da r.data.length dc))
            have hlv := fun j => cell_of_row _ w.heap.size j _ _ _ (rS_heap w5 w.heap.size r rz0 (.slice sa r.spans.length sc) (.slice da r.data.length dc) _ _ HZ4.out)
            have hrg := rS_grown w5 w.heap.size r (.slice sa r.spans.length sc) (.slice da r.data.length dc)
            generalize rS w5 w.heap.size r (.slice sa r.spans.length sc) (.slice da r.data.length dc) = WF at *
            clear x0 x1 x2 x3 x4 x5 x6 x7 x8 x9 x10 y0 y1 y2 y3 y4 y5 y6 y7 y8 y9 y10 fz
            refine bodyPost_ret (v := .tuple #[.agg (rcC r (.slice sa r.spans.length sc) (.slice da r.data.length dc)), .int .i64 (8 + (V : Int))]) (by simp [results, Tryd.results25, go_sem, rcC, hlv]; try omega) rfl ?_
            show RdPost (fsR zs) w _ _
            rw [HQ.out]
            exact ⟨sa, da, sc, dc, rfl, own_base6 (own_keep6 HS4.out hrg (by intro j hj; have := (HS4.out.lt j hj).1; simp; omega)) HB3.out.size, own_base6 (own_keep6 HD4.out hrg (by intro j hj; have := (HD4.out.lt j hj).1; simp; omega)) HB3.out.size, HPT.out, HB4.out.grown hrg HB4.out.size (by simp)⟩
        · have HQ : Hid (fsR zs = (rz0, 0)) := fsR_sum HNL.out.1 HNX.out HV.out (by rw [HU.out]; intro e; exact h3 (HX.out.trans e))
          go_upto_region 5 with (go_at_call 24; refine (HSUM.out _ HB3.out).mono ?_; rintro e w' ⟨rfl, rfl⟩)
          obtain ⟨y0, y1, y2, y3, y4, y5, y6, y7, y8, y9, y10⟩ := rc_cells HZ3.out
          have fz := rc_frozen HZ3.out
          go_wp2_with fail
          change bodyPost _ _ _ _ _ (rS wc w.heap.size rz0 (.slice none 0 0) (.slice none 0 0))
          have hlv := fun j => cell_of_row _ w.heap.size j _ _ _ (rS_heap wc w.heap.size rz0 rz0 (.slice none 0 0) (.slice none 0 0) _ _ HZ3.out)
          have hrg := rS_grown wc w.heap.size rz0 (.slice none 0 0) (.slice none 0 0)
          generalize rS wc w.heap.size rz0 (.slice none 0 0) (.slice none 0 0) = WF at *
          clear y0 y1 y2 y3 y4 y5 y6 y7 y8 y9 y10 fz
          refine bodyPost_ret (v := .tuple #[.agg (rcC rz0 (.slice none 0 0) (.slice none 0 0)), .int .i64 0]) (by simp [results, Tryd.results25, go_sem, rcC, hlv]) rfl ?_
          show RdPost (fsR zs) w _ _
          rw [HQ.out]
          exact ⟨none, none, 0, 0, rfl, C.SOwn.nil _ _, World.ownsRow_nil _ _ _ _, fun j hj => by simp [Value.ownBlock] at hj, HB3.out.grown hrg HB3.out.size (by simp)⟩
theorem first_any (a : Option Addr) (zs : List Int) (n c : Nat) (w : World) (hT : Tab6 w) (hb : Bytey zs) (hl : zs.length = n) (hnc : n ≤ c) (hc : c ≤ 9223372036854775807) (hm : n ≤ 1099511627776) (hz : Lies .u8 w a zs) :
    Calls Tryd.prog 25 #[.slice a n c] w (RdPost (fsR zs) w) := by
  by_cases h8 : n < 8
  · exact first_short a zs n c w hl h8
  · rcases hz with h0 | ⟨g, off, rfl, hz⟩
    · rw [h0] at hl; simp at hl; omega
    · exact first_long g off zs n c w hT hb hl hnc hc (by omega) hm hz
end Go.Proofs.YtjolflpmeodnaagDoor

namespace Go.Proofs.YtjolflpmeodnaagDoor
open Go.RowKit
set_option linter.unusedVariables false
set_option linter.unusedSimpArgs false

/-- What Scan answers. -/
def ScPost (q : List Rc × Nat) (w : World) (e : Ending) (w' : World) : Prop :=
  ∃ v os, e = .returned (.tuple #[v, .int .i64 q.2]) ∧ Rl w' w.heap.size v os ∧ os.map Ro.r = q.1 ∧ Below w.heap.size w w'
theorem Tryd.info_rec : (Tryd.prog.info? 27).map (fun i => (i.zero, i.size, i.bytes)) = some (some (.agg (rcC rz0 (.slice none 0 0) (.slice none 0 0))), 11, 120) := by kernel_rfl
theorem rec_lit (W : World) (r : Rc) (sv dv : Value) : ∀ j u, (rcC r sv dv).toList[j]? = some u → (W.alloc (rcO r sv dv)).cell? ((⟨W.heap.size, 0, none⟩ : Addr).add j) = some u := by
  intro j u hj
  have h1 := cell_of_row _ W.heap.size j _ _ _ (heap_new6 W (rcO r sv dv))
  rw [show (⟨W.heap.size, 0, none⟩ : Addr).add j = ⟨W.heap.size, j, none⟩ from by unfold Addr.add; split <;> simp_all, h1]
  rw [Array.getElem?_toList] at hj
  exact hj
theorem rec_one (r : Rc) (sa da : Option Addr) (ns nd sc dc : Nat) : ∀ u ∈ (rcC r (.slice sa ns sc) (.slice da nd dc)).toList, u.oneCell' = true := by
  intro u hu
  simp at hu
  rcases hu with rfl | rfl | rfl | rfl | rfl | rfl | rfl | rfl | rfl | rfl | rfl <;> rfl

set_option maxRecDepth 100000 in
set_option maxHeartbeats 4000000 in
theorem scan_any (ad : Option Addr) (zs : List Int) (n c : Nat) (w : World) (hT : Tab6 w) (hb : Bytey zs) (hl : zs.length = n) (hnc : n ≤ c) (hc : c ≤ 9223372036854775807) (hm : n ≤ 1099511627776) (hz : Lies .u8 w ad zs) (had : ad = none ∧ c = 0 ∨ ∃ g off, ad = some ⟨g, off, none⟩) :
    Calls Tryd.prog 13 #[.slice ad n c] w (ScPost (scR zs) w) := by
  obtain ⟨i0, hi0, hz0, hy0, hb0⟩ := info_parts Tryd.info_rec
  have HT : Hid (Tab6 w) := hT
  have HBY : Hid (Bytey zs) := hb
  have HL : Hid (zs.length = n) := hl
  have HZ : Hid (Lies .u8 w ad zs) := hz
  clear hT hb hl hz
  go_enter Tryd.func13, Tryd.ntmps13
  go_wp2_with fail
  go_loopw [4, 5] (fun v p wr => ∃ (os : List Ro) (t : Nat), p = .int .i64 t ∧ Scd zs (os.map Ro.r) t ∧ Rl wr w.heap.size v os ∧ Below w.heap.size w wr) (fun _ p _ => n - (intOf p).toNat)
  case atStart => exact ⟨[], 0, rfl, Scd.start _, Rl.start _ _, Below.refl _ _⟩
  case round =>
    obtain ⟨os, t, rfl, hsc, hrl, hbw⟩ := hrel
    have hcnt := hsc.cnt
    have hlen := hsc.len
    rw [List.length_map] at hcnt
    rw [HL.out] at hlen
    have HSC : Hid (Scd zs (os.map Ro.r) t) := hsc
    have HRL : Hid (Rl wr w.heap.size u4 os) := hrl
    have HBW : Hid (Below w.heap.size w wr) := hbw
    obtain ⟨r, k, hq⟩ : ∃ r k, fsR (zs.drop t) = (r, k) := ⟨_, _, rfl⟩
    have HQ1 : Hid (r = (fsR (zs.drop t)).1) := by rw [hq]; rfl
    have HQ2 : Hid (k = (fsR (zs.drop t)).2) := by rw [hq]; rfl
    have hbd := fsR_bd (bytDrop HBY.out t)
    rw [hq, List.length_drop, HL.out] at hbd
    have HKT : Hid (k ≠ 0 → 8 ≤ k ∧ k ≤ n - t) := fun h => by rcases hbd with q | q; exact absurd q h; exact ⟨q.1, by omega⟩
    have HSM : Hid (r.data.length ≤ 65536 ∧ r.spans.length ≤ 500) := by have := fs_small (bytDrop HBY.out t); rw [hq] at this; exact this
    have HFA : Hid (∀ a', Lies .u8 wr a' (zs.drop t) → Calls Tryd.prog 25 #[.slice a' (n - t) (c - t)] wr (RdPost (r, k) wr)) := fun a' ha' => by
      have := first_any a' (zs.drop t) (n - t) (c - t) wr (HT.out.below hbw (tab6_pos HT.out)) (bytDrop HBY.out t) (by rw [List.length_drop, HL.out]) (by omega) (by omega) (by omega) ha'
      rw [hq] at this
      exact this
    have ht1 : (t : Int) ≤ (n : Int) := by omega
    have ht2 : (t : Int) ≤ (c : Int) := by omega
    have HAPP : Hid True := trivial
    have HNEW : Hid True := trivial
    have hLz := HZ.out.below hbw
    clear hsc hrl hbw hq hbd
    rcases had with ⟨rfl, rfl⟩ | ⟨g, off, rfl⟩
    · obtain rfl : n = 0 := by omega
      obtain rfl : t = 0 := by omega
      have HF := HFA.out none (.inl (by rw [List.drop_zero]; exact List.eq_nil_of_length_eq_zero HL.out))
      have HF : Hid (Calls Tryd.prog 25 #[.slice none 0 0] wr (RdPost (r, k) wr)) := HF
      clear HFA hLz
      have h0 : k = 0 := by
        by_cases h : k = 0
        · exact h
        · have := HKT.out h; omega
      have HE : Hid (scR zs = (os.map Ro.r, 0)) := HSC.out.fin (by rw [← HQ2.out]; exact h0)
      clear HAPP HNEW
      go_wp2_with (go_at_call 25; refine HF.out.mono ?_; rintro e w4 ⟨sa, da, sc, dc, rfl, hso, hdo, hpt, hb4⟩)
      refine bodyPost_ret (v := .tuple #[u4, .int .i64 0]) (by simp [results, Tryd.results13, go_sem]) rfl ?_
      show ScPost (scR zs) w _ _
      rw [HE.out]
      exact ⟨_, os, rfl, (HRL.out.keep hb4).keep ((Below.refl _ _).alloc (Nat.le_refl _) _), rfl, (HBW.out.trans (hb4.mono HBW.out.size)).alloc (Nat.le_trans HBW.out.size hb4.size) _⟩
    · by_cases hct : c = t
      · subst hct
        obtain rfl : n = c := by omega
        have HF : Hid (Calls Tryd.prog 25 #[.slice (some ⟨g, off, none⟩) 0 0] wr (RdPost (r, k) wr)) := by have := HFA.out (some ⟨g, off, none⟩) (.inl (List.drop_eq_nil_of_le (by rw [HL.out]; exact Nat.le_refl _))); rw [Nat.sub_self] at this; exact this
        clear HFA hLz
        have h0 : k = 0 := by
          by_cases h : k = 0
          · exact h
          · have := HKT.out h; omega
        have HE : Hid (scR zs = (os.map Ro.r, n)) := HSC.out.fin (by rw [← HQ2.out]; exact h0)
        clear HAPP HNEW
        go_wp2_with (go_at_call 25; refine HF.out.mono ?_; rintro e w4 ⟨sa, da, sc, dc, rfl, hso, hdo, hpt, hb4⟩)
        refine bodyPost_ret (v := .tuple #[u4, .int .i64 n]) (by simp [results, Tryd.results13, go_sem]) rfl ?_
        show ScPost (scR zs) w _ _
        rw [HE.out]
        exact ⟨_, os, rfl, (HRL.out.keep hb4).keep ((Below.refl _ _).alloc (Nat.le_refl _) _), rfl, (HBW.out.trans (hb4.mono HBW.out.size)).alloc (Nat.le_trans HBW.out.size hb4.size) _⟩
      · have HF : Hid (Calls Tryd.prog 25 #[.slice (some ⟨g, off + t, none⟩) (n - t) (c - t)] wr (RdPost (r, k) wr)) := HFA.out (some ⟨g, off + t, none⟩) (by
          rcases hLz with h0 | ⟨g', off', he, hce⟩
          · left; rw [h0]; simp
          · simp only [Option.some.injEq, Addr.mk.injEq, and_true] at he
            obtain ⟨rfl, rfl⟩ := he
            refine .inr ⟨g, off + t, rfl, fun i hi => ?_⟩
            rw [List.length_drop] at hi
            have h1 := hce (t + i) (by omega)
            rw [List.getD_eq_getElem?_getD, List.getElem?_drop, ← List.getD_eq_getElem?_getD, show off + t + i = off + (t + i) by omega]
            exact h1)
        clear HFA hLz
        by_cases h0 : k = 0
        · have HE : Hid (scR zs = (os.map Ro.r, t)) := HSC.out.fin (by rw [← HQ2.out]; exact h0)
          clear HAPP HNEW
          go_wp2_with (go_at_call 25; refine HF.out.mono ?_; rintro e w4 ⟨sa, da, sc, dc, rfl, hso, hdo, hpt, hb4⟩)
          refine bodyPost_ret (v := .tuple #[u4, .int .i64 t]) (by simp [results, Tryd.results13, go_sem]) rfl ?_
          show ScPost (scR zs) w _ _
          rw [HE.out]
          exact ⟨_, os, rfl, (HRL.out.keep hb4).keep ((Below.refl _ _).alloc (Nat.le_refl _) _), rfl, (HBW.out.trans (hb4.mono HBW.out.size)).alloc (Nat.le_trans HBW.out.size hb4.size) _⟩
        · have hkt := HKT.out h0
          go_upto_region 6 with (go_at_call 25; refine HF.out.mono ?_; rintro e w4 ⟨sa, da, sc, dc, rfl, hso, hdo, hpt, hb4⟩)
          have hs4 := hb4.size
          have HX4 : Hid ((w4.alloc (rcO r (.slice sa r.spans.length sc) (.slice da r.data.length dc))).heap[w4.heap.size]? = some (rcO r (.slice sa r.spans.length sc) (.slice da r.data.length dc))) := heap_new6 w4 _
          have HB4 : Hid (Below wr.heap.size wr (w4.alloc (rcO r (.slice sa r.spans.length sc) (.slice da r.data.length dc)))) := hb4.alloc hb4.size _
          have HS4 : Hid (C.SOwn (w4.alloc (rcO r (.slice sa r.spans.length sc) (.slice da r.data.length dc))) wr.heap.size (.slice sa r.spans.length sc) r.spans) := World.ownsRow.alloc hso _
          have HD4 : Hid ((w4.alloc (rcO r (.slice sa r.spans.length sc) (.slice da r.data.length dc))).ownsRow wr.heap.size 5 1 (.slice da r.data.length dc) r.data.length (r.data.map (Value.int .u8))) := hdo.alloc _
          have HPT : Hid (∀ j, (Value.slice sa r.spans.length sc).ownBlock = some j → (Value.slice da r.data.length dc).ownBlock ≠ some j) := hpt
          clear hso hdo hpt hb4 HF
          generalize w4.alloc (rcO r (.slice sa r.spans.length sc) (.slice da r.data.length dc)) = w5 at *
          obtain ⟨x0, x1, x2, x3, x4, x5, x6, x7, x8, x9, x10⟩ := rc_cells HX4.out
          have HR5 : Hid ((w5.alloc (rcO r (.slice sa r.spans.length sc) (.slice da r.data.length dc))).ownsRow w.heap.size 27 11 u4 os.length (rlC os)) := (own_below6 HRL.out.row HB4.out).alloc _
          have HB5 : Hid (Below wr.heap.size wr (w5.alloc (rcO r (.slice sa r.spans.length sc) (.slice da r.data.length dc)))) := HB4.out.alloc HB4.out.size _
          have hsz5 : wr.heap.size ≤ w5.heap.size := HB4.out.size
          have HLO : Hid (w.heap.size ≤ wr.heap.size) := HBW.out.size
          go_wp2_with (at_builtin; refine wpList_append_own_at _ rfl _ _ 38 rfl w.heap.size 27 i0 _ 11 120 Tryd.underlying38 hi0 hz0 hy0 hb0 rfl (by decide) _ _ _ rfl HR5.out ⟨w5.heap.size, 0, none⟩ 1 1 (rcC r (.slice sa r.spans.length sc) (.slice da r.data.length dc)).toList rfl rfl (rec_lit _ _ _ _) (rec_one _ _ _ _ _ _ _) (by unfold maxLen; omega) (by omega) (by have := HLO.out; simp; omega) ?_; intro v6 w6 o6 g6 _ t6)
          have HRN : Hid (Rl w6 w.heap.size v6 (os ++ [⟨r, sa, da, sc, dc⟩])) := HRL.out.push HLO.out HB5.out ⟨r, sa, da, sc, dc⟩ (World.ownsRow.alloc HS4.out _) (HD4.out.alloc _) HPT.out HSM.out g6 o6 (fun j hj => by
            rcases t6 with q | q
            · left; exact q.symm.trans hj
            · right; rw [q] at hj; simp at hj; simp; omega)
          have HBN : Hid (Below w.heap.size w w6) := (HBW.out.trans (HB5.out.mono HLO.out)).grown g6 (by simp; have := HLO.out; omega) (fun j hj => (HRL.out.row.lt j hj).1)
          have HSN : Hid (Scd zs ((os ++ [(⟨r, sa, da, sc, dc⟩ : Ro)]).map Ro.r) (t + k.toNat)) := by
            have := HSC.out.step HBY.out (by rw [← HQ2.out]; exact h0)
            rw [← HQ1.out, ← HQ2.out] at this
            rw [List.map_append]
            exact this
          clear o6 g6 t6 x0 x1 x2 x3 x4 x5 x6 x7 x8 x9 x10
          go_wp2
          go_roundw
          case rel => exact ⟨os ++ [⟨r, sa, da, sc, dc⟩], t + k.toNat, by first | rfl | (congr 1; omega), HSN.out, HRN.out, HBN.out⟩
          case measure => simp [intOf]; omega
end Go.Proofs.YtjolflpmeodnaagDoor
