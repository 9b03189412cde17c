import Derived.Test.YtdfdaambfihjaaaDoorReport
namespace Go.Proofs.YtdfdaambfihjaaaDoor
open Go.RowKit


/-- A segment that lies in memory of its own: its lists' blocks, Head's ahead of B1, those of Data and Claims from there up to B2, Tail's behind. -/
structure SOwn (w : World) (base : Nat) (s : Sg) (hv tv dv cv : Value) (hx tx : List Xr) (B1 B2 : Nat) : Prop where
  le1 : base ≤ B1
  le2 : B1 ≤ B2
  head : XOwn w base hv hx
  headLt : ∀ k, (hv.ownBlock = some k ∨ ∃ x ∈ hx, x.val.ownBlock = some k) → k < B1
  headEq : s.head = hx.map Xr.ex
  data : w.ownsRow B1 5 1 dv s.data.length (s.data.map (Value.int .u8))
  dataLt : ∀ k, dv.ownBlock = some k → k < B2
  dataB : Bytey s.data
  dataS : s.data.length ≤ 70000
  clm : w.ownsRow B1 91 2 cv s.clm.length (s.clm.flatMap spc)
  clmLt : ∀ k, cv.ownBlock = some k → k < B2
  clmS : s.clm.length ≤ 1000
  only : dv.ownBlock = none ∨ cv.ownBlock = none
  tail : XOwn w B2 tv tx
  tailEq : s.tail = tx.map Xr.ex
  few : hx.length ≤ 15 ∧ tx.length ≤ 15

theorem XOwn.lt {w : World} {base : Nat} {v : Value} {xs : List Xr} (h : XOwn w base v xs) : ∀ k, (v.ownBlock = some k ∨ ∃ x ∈ xs, x.val.ownBlock = some k) → base ≤ k ∧ k < w.heap.size := by
  rintro k (hk | ⟨x, hx, hk⟩)
  · exact h.row.lt k hk
  · exact (h.data x hx).row.lt k hk

/-- What came to the place behind Head: the segment's other fields, in memory from B1 on. -/
structure Mid (w : World) (B1 : Nat) (s : Sg) (dv cv : Value) : Prop where
  data : w.ownsRow B1 5 1 dv s.data.length (s.data.map (Value.int .u8))
  dataB : Bytey s.data
  dataS : s.data.length ≤ 70000
  clm : w.ownsRow B1 91 2 cv s.clm.length (s.clm.flatMap spc)
  clmS : s.clm.length ≤ 1000
  only : dv.ownBlock = none ∨ cv.ownBlock = none

theorem mid_nil (w : World) (B1 : Nat) (s : Sg) (hd : s.data = []) (hc : s.clm = []) : Mid w B1 s (.slice none 0 0) (.slice none 0 0) :=
  ⟨by rw [hd]; exact World.ownsRow_nil _ _ _ _, by rw [hd]; exact (fun z hz => by cases hz), by rw [hd]; simp, by rw [hc]; exact World.ownsRow_nil _ _ _ _, by rw [hc]; simp, .inl rfl⟩

theorem sown_mk {w w1 w2 w3 : World} {b : Nat} {s : Sg} {hv tv dv cv : Value} {hx tx : List Xr} (hb : b < w.heap.size) (hh : XOwn w1 w.heap.size hv hx) (h01 : w.heap.size ≤ w1.heap.size) (he : s.head = hx.map Xr.ex) (hl : hx.length ≤ 15)
    (g12 : w1.grownBy w2 (some b)) (hm : Mid w2 w1.heap.size s dv cv) (g23 : w2.grownBy w3 (some b)) (ht : XOwn w3 w2.heap.size tv tx) (hl2 : tx.length ≤ 15) : SOwn w3 w.heap.size { s with tail := tx.map Xr.ex } hv tv dv cv hx tx w1.heap.size w2.heap.size := by
  refine ⟨h01, g12.size, (hh.keep g12 (by simp; omega)).keep g23 (by simp; omega), fun k hk => (hh.lt k hk).2, he, ?_, fun k hk => (hm.data.lt k hk).2, hm.dataB, hm.dataS, ?_, fun k hk => (hm.clm.lt k hk).2, hm.clmS, hm.only, ht, rfl, hl, hl2⟩
  · exact own_keep hm.data g23 (fun k hk e => by have := (hm.data.lt k hk).1; simp at e; omega)
  · exact own_keep hm.clm g23 (fun k hk e => by have := (hm.clm.lt k hk).1; simp at e; omega)

theorem XOwn.put {w : World} {b i : Nat} {u : Value} {base : Nat} {v : Value} {xs : List Xr} (h : XOwn w base v xs) (hb : b < base) : XOwn (w.setCell ⟨b, i, none⟩ u) base v xs := h.keep (grown_set _ _ _ _) (by simp; omega)

theorem sw0_2 : anyB 0 2 = false := by decide
theorem sw0_8 : anyB 0 8 = false := by decide
theorem sw0_16 : anyB 0 16 = false := by decide
theorem sw0_32 : anyB 0 32 = false := by decide
theorem sw1_2 : anyB 1 2 = false := by decide
theorem sw1_8 : anyB 1 8 = false := by decide
theorem sw1_16 : anyB 1 16 = false := by decide
theorem sw1_32 : anyB 1 32 = false := by decide
theorem sw3_2 : anyB 3 2 = true := by decide
theorem sw3_8 : anyB 3 8 = false := by decide
theorem sw3_16 : anyB 3 16 = false := by decide
theorem sw3_32 : anyB 3 32 = false := by decide
theorem sw7_2 : anyB 7 2 = true := by decide
theorem sw7_8 : anyB 7 8 = false := by decide
theorem sw7_16 : anyB 7 16 = false := by decide
theorem sw7_32 : anyB 7 32 = false := by decide
theorem sw9_2 : anyB 9 2 = false := by decide
theorem sw9_8 : anyB 9 8 = true := by decide
theorem sw9_16 : anyB 9 16 = false := by decide
theorem sw9_32 : anyB 9 32 = false := by decide
theorem sw17_2 : anyB 17 2 = false := by decide
theorem sw17_8 : anyB 17 8 = false := by decide
theorem sw17_16 : anyB 17 16 = true := by decide
theorem sw17_32 : anyB 17 32 = false := by decide
theorem sw33_2 : anyB 33 2 = false := by decide
theorem sw33_8 : anyB 33 8 = false := by decide
theorem sw33_16 : anyB 33 16 = false := by decide
theorem sw33_32 : anyB 33 32 = true := by decide
theorem and15 (m : Nat) (hm : m ≤ 255) : bits .and .i64 (m : Int) 15 = ((m % 16 : Nat) : Int) := by
  have h15 : (BitVec.ofInt 64 15).toNat = 2 ^ 4 - 1 := by decide
  have key : (BitVec.ofInt 64 (m : Int) &&& BitVec.ofInt 64 15).toNat = ((m : Int) % ((2 ^ 64 : Nat) : Int)).toNat % 2 ^ 4 := by
    rw [BitVec.toNat_and, BitVec.toNat_ofInt, h15, Nat.and_two_pow_sub_one_eq_mod]
  show IntKind.i64.wrap ((BitVec.ofInt 64 (m : Int) &&& BitVec.ofInt 64 15).toNat : Nat) = _
  rw [key, IntKind.wrap_i64]
  omega

theorem one17_24 : one (anyB 17 24) = 1 := by decide

end Go.Proofs.YtdfdaambfihjaaaDoor
