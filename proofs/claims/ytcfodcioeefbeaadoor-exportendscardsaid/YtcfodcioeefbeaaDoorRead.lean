import Derived.Test.YtcfodcioeefbeaaDoorChecked
import Derived.Test.YtcfodcioeefbeaaDoorMath
import Derived.WalkKit
import Derived.WalkSpells
import Derived.WalkMore
import Derived.Deep.LoopGhost
import Derived.WalkLawsBesides
import Derived.Laws.BitsAllLaws
import Derived.Laws.CopyOwn
import Derived.Laws.AppendOwnNone
namespace Go.Proofs.YtcfodcioeefbeaaDoor
open Go.RowKit

/-- The bytes zs lie at a slice's head. -/
def Lies (k : IntKind) (w : World) (a : Option Addr) (zs : List Int) : Prop :=
  zs = [] ∨ ∃ b off, a = some ⟨b, off, none⟩ ∧ ∀ i, i < zs.length → w.cell? ⟨b, off + i, none⟩ = some (.int k (zs.getD i 0))

def Bytey (zs : List Int) : Prop := ∀ z ∈ zs, 0 ≤ z ∧ z ≤ 255

theorem or_join (v c : Int) (h0 : 0 ≤ v) (h1 : v ≤ 144115188075855871) (c0 : 0 ≤ c) (c1 : c < 128) : bits .or .u64 (v * 128) c = v * 128 + c := by
  rw [u64_or _ _ (by omega) (by omega) (by omega) (by omega)]
  obtain ⟨x, rfl⟩ : ∃ x : Nat, v = x := ⟨v.toNat, by omega⟩
  obtain ⟨y, rfl⟩ : ∃ y : Nat, c = y := ⟨c.toNat, by omega⟩
  rw [show ((x : Int) * 128).toNat = x * 128 from by omega, Int.toNat_natCast, nat_join 7 (x * 128) y (by omega) (by omega)]
  omega

theorem nform {i c : Int} (h : i = 0 → (c == 128) = false) : ¬ (i = 0 ∧ c = 128) := by
  rintro ⟨a, rfl⟩; exact absurd (h a) (by decide)
theorem rd_form (v i c : Int) (r : List Int) (hi : i = 0) (h : (c == 128) = true) : rdGo v i (c :: r) = (0, 0, 11) := by
  simp at h; simp [rdGo, h, hi]
theorem rd_range (v i c : Int) (r : List Int) (h : i = 0 → (c == 128) = false) (hv : 144115188075855871 < v) : rdGo v i (c :: r) = (0, 0, 12) := by
  rw [rdGo, if_neg (nform h), if_pos hv]
theorem rd_end (v i c : Int) (r : List Int) (h : i = 0 → (c == 128) = false) (h0 : 0 ≤ v) (hv : v ≤ 144115188075855871) (c0 : 0 ≤ c) (hc : c < 128) (i1 : Int) (hi1 : i1 = i + 1) : rdGo v i (c :: r) = (bits .or .u64 (v * 128) c, i1, 0) := by
  rw [rdGo, if_neg (nform h), if_neg (by omega), if_pos hc, or_join v c h0 hv c0 hc, hi1]
theorem rd_more (v i c : Int) (r : List Int) (h : i = 0 → (c == 128) = false) (h0 : 0 ≤ v) (hv : v ≤ 144115188075855871) (hc : 128 ≤ c) (c1 : c ≤ 255) : 0 ≤ bits .or .u64 (v * 128) (c - 128) ∧ bits .or .u64 (v * 128) (c - 128) ≤ 18446744073709551615 ∧ rdGo v i (c :: r) = rdGo (bits .or .u64 (v * 128) (c - 128)) (i + 1) r := by
  rw [or_join v (c - 128) h0 hv (by omega) (by omega)]
  refine ⟨by omega, by omega, ?_⟩
  rw [rdGo, if_neg (nform h), if_neg (by omega), if_neg (by omega)]

theorem ret3 {t : Int × Int × Int} {a b c : Int} (h : t = (a, b, c)) : Ending.returned (.tuple #[.int .u64 a, .int .i64 b, .int .i64 c]) = .returned (.tuple #[.int .u64 t.1, .int .i64 t.2.1, .int .i64 t.2.2]) := by subst h; rfl

theorem drop_cons (zs : List Int) (k : Nat) (h : k < zs.length) : zs.drop k = zs.getD k 0 :: zs.drop (k + 1) := by
  rw [List.drop_eq_getElem_cons h, List.getD_eq_getElem?_getD, List.getElem?_eq_getElem h]; rfl

end Go.Proofs.YtcfodcioeefbeaaDoor

namespace Go.Proofs.YtcfodcioeefbeaaDoor
open Go.RowKit

/-- Block g is just these numbers. -/
def Blk (k : IntKind) (w : World) (g : Nat) (t : TypeId) (xs : List Int) : Prop := w.heap[g]? = some (.cells (xs.map (Value.int k)).toArray t (0, 0))

theorem Blk.lt {k : IntKind} {w : World} {g : Nat} {t : TypeId} {xs : List Int} (h : Blk k w g t xs) : g < w.heap.size := by
  rcases Nat.lt_or_ge g w.heap.size with hg | hg
  · exact hg
  · unfold Blk at h; rw [Array.getElem?_eq_none hg] at h; cases h

theorem Blk.cell {k : IntKind} {w : World} {g : Nat} {t : TypeId} {xs : List Int} (h : Blk k w g t xs) (i : Nat) (hi : i < xs.length) : w.cell? ⟨g, i, none⟩ = some (.int k (xs.getD i 0)) := by
  unfold Blk at h
  simp [World.cell?, h, List.getD_eq_getElem?_getD, List.getElem?_eq_getElem hi]

theorem Blk.frozen {k : IntKind} {w : World} {g : Nat} {t : TypeId} {xs : List Int} (h : Blk k w g t xs) (i : Nat) : w.frozen? ⟨g, i, none⟩ = false := by
  unfold Blk at h
  simp [World.frozen?, h]

theorem Blk.set {k : IntKind} {w : World} {g : Nat} {t : TypeId} {xs : List Int} (h : Blk k w g t xs) (i : Nat) (v : Int) : Blk k (w.setCell ⟨g, i, none⟩ (.int k v)) g t (xs.set i v) := by
  unfold Blk at h ⊢
  have hg : g < w.heap.size := Blk.lt h
  simp only [World.setCell, Array.getElem?_modify, h, if_true, Option.map_some]
  simp [List.map_set]

theorem Blk.of_eq {k : IntKind} {w w' : World} {g : Nat} {t : TypeId} {xs : List Int} (h : Blk k w g t xs) (e : w'.heap[g]? = w.heap[g]?) : Blk k w' g t xs := e.trans h

theorem Blk.below {k : IntKind} {w w' : World} {g B : Nat} {t : TypeId} {xs : List Int} (h : Blk k w g t xs) (hb : Below B w w') (hg : g < B) : Blk k w' g t xs := (hb.block g hg).trans h

theorem Blk.lies {k : IntKind} {w : World} {g : Nat} {t : TypeId} {xs : List Int} (h : Blk k w g t xs) (n : Nat) : Lies k w (some ⟨g, 0, none⟩) (xs.take n) := by
  refine .inr ⟨g, 0, rfl, fun i hi => ?_⟩
  have hi' : i < n ∧ i < xs.length := by simp at hi; omega
  rw [Nat.zero_add, h.cell i hi'.2]
  simp [List.getD_eq_getElem?_getD, hi'.1]

theorem grown_trans {a b c : World} {row : Option Nat} (h : a.grownBy b row) (h' : b.grownBy c row) : a.grownBy c row :=
  ⟨h'.os.trans h.os, h'.tape.trans h.tape, h'.output.trans h.output, Nat.le_trans h.size h'.size, fun k hk hne => (h'.block k (Nat.lt_of_lt_of_le hk h.size) hne).trans (h.block k hk hne)⟩

theorem grown_set (w : World) (g i : Nat) (u : Value) : w.grownBy (w.setCell ⟨g, i, none⟩ u) (some g) :=
  ⟨rfl, rfl, rfl, by simp [World.setCell], fun k _ hne => Below.heap_setCell _ _ _ _ (fun e => hne (by rw [e]))⟩

theorem Lies.block {k : IntKind} {w : World} {b off : Nat} {zs : List Int} (h : ∀ i, i < zs.length → w.cell? ⟨b, off + i, none⟩ = some (.int k (zs.getD i 0))) (hz : zs ≠ []) : b < w.heap.size := by
  have hp : 0 < zs.length := List.length_pos_iff.mpr hz
  exact World.block_lt_of_cell? w ⟨b, off + 0, none⟩ (h 0 hp)

theorem Lies.below {k : IntKind} {w w' : World} {a : Option Addr} {zs : List Int} (h : Lies k w a zs) (hb : Below w.heap.size w w') : Lies k w' a zs := by
  rcases h with rfl | ⟨b, off, rfl, h⟩
  · exact .inl rfl
  · by_cases hz : zs = []
    · exact .inl hz
    · have hl := Lies.block h hz
      exact .inr ⟨b, off, rfl, fun i hi => (hb.cell (p := ⟨b, off + i, none⟩) hl).trans (h i hi)⟩

theorem getD_append_left' (a b : List Int) (i : Nat) (h : i < a.length) : (a ++ b).getD i 0 = a.getD i 0 := by
  simp [List.getD_eq_getElem?_getD, List.getElem?_append, h]

theorem getD_repl (a : List Int) (n : Nat) (v : Int) (i : Nat) (h : a.length ≤ i) (h2 : i < a.length + n) : (a ++ List.replicate n v).getD i 0 = v := by
  rw [List.getD_eq_getElem?_getD, List.getElem?_append_right h, List.getElem?_replicate, if_pos (by omega)]; rfl

theorem halve_step (cs : List Int) (f : Int → Int) (k : Nat) (h : k < cs.length) : ((cs.take k).map f ++ cs.drop k).set k (f (cs.getD k 0)) = (cs.take (k + 1)).map f ++ cs.drop (k + 1) := by
  have hl : ((cs.take k).map f).length = k := by simp; omega
  rw [List.set_append_right _ _ (by omega), hl, Nat.sub_self, drop_cons cs k h, List.set_cons_zero, List.take_succ_eq_append_getElem h, List.map_append]
  simp [List.getD_eq_getElem?_getD, List.getElem?_eq_getElem h]

theorem halve_at (cs : List Int) (f : Int → Int) (k : Nat) (h : k < cs.length) : ((cs.take k).map f ++ cs.drop k).getD k 0 = cs.getD k 0 := by
  have hl : ((cs.take k).map f).length = k := by simp; omega
  rw [List.getD_eq_getElem?_getD, List.getElem?_append_right (by omega), hl, Nat.sub_self, drop_cons cs k h]
  simp

end Go.Proofs.YtcfodcioeefbeaaDoor

namespace Go.Proofs.YtcfodcioeefbeaaDoor
open Go.RowKit

/-- An append to a row that is owned, of whatever numbers: also of no list at all. -/
theorem append_any {P : Program} (w : World) {ops : Array Oper} {rest : List Oper} {o : Oper} {a : Act} {Q : Exit → Act → World → Prop} (hgd : o.guard = none) (s x : Operand) (t : TypeId)
    (ho : o.op = .call { callee := .builtin .append, args := #[s, x], argTypes := #[t, t] })
    (base : Nat) (e : TypeId) (i : TypeInfo) (z : Value) (bytes : Nat) (ht : P.underlying t = some (.slice e)) (hi : P.info? e = some i) (hz : i.zero = some z)
    (hsize : i.size = 1) (hby : i.bytes = bytes) (hzs : z.cells.size = 1)
    (v : Value) (n : Nat) (xs : List Value) (hs : a.eval s = v) (hown : w.ownsRow base e 1 v n xs)
    (k : IntKind) (ao : Option Addr) (m c : Nat) (zs : List Int) (hx : a.eval x = .slice ao m c) (hnil : ao = none → m = 0 ∧ c = 0) (hl : zs.length = m) (hz' : Lies k w ao zs)
    (h63 : n + m ≤ maxLen) (hbytes : (n + m) * bytes ≤ 140737488355328) (hbase : base ≤ w.heap.size)
    (h : ∀ v' w', w'.ownsRow base e 1 v' (n + m) (xs ++ zs.map (Value.int k)) → w.grownBy w' v.ownBlock → wpList P ops Q rest (a.put o.dst v') w') : wpList P ops Q (o :: rest) a w := by
  cases ao with
  | none =>
    obtain ⟨rfl, rfl⟩ := hnil rfl
    obtain rfl : zs = [] := List.eq_nil_of_length_eq_zero hl
    refine wpList_append_own_none hgd s x t ho base e i 1 ht hi v n xs hs hown hx ?_
    exact h v w (by simpa using hown) (World.grownBy.refl _ _)
  | some ad =>
    refine wpList_append_own w hgd s x t ho base e i z 1 bytes ht hi hz hsize hby hzs (by decide) v n xs hs hown ad m c (zs.map (Value.int k)) hx (by simpa using hl) ?_ (by intro u hu; simp at hu; obtain ⟨y, _, rfl⟩ := hu; rfl) h63 hbytes hbase (fun v' w' h1 h2 _ => h v' w' h1 h2)
    intro j u hj
    have hjl : j < zs.length := by
      rcases Nat.lt_or_ge j zs.length with q | q
      · exact q
      · rw [List.getElem?_eq_none (by simpa using q)] at hj; cases hj
    rcases hz' with rfl | ⟨b, off, hb, hc⟩
    · simp at hjl
    · simp only [Option.some.injEq] at hb
      subst hb
      rw [List.getElem?_map, List.getElem?_eq_getElem hjl] at hj
      simp only [Option.map_some, Option.some.injEq] at hj
      rw [show (⟨b, off, none⟩ : Addr).add j = ⟨b, off + j, none⟩ from by unfold Addr.add; split <;> simp_all, hc j hjl, ← hj]
      simp [List.getD_eq_getElem?_getD, List.getElem?_eq_getElem hjl]

end Go.Proofs.YtcfodcioeefbeaaDoor
