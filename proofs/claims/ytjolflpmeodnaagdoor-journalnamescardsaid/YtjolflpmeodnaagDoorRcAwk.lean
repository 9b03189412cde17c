import Derived.Test.YtjolflpmeodnaagDoorNums
import Derived.Test.YtjolflpmeodnaagDoorRcSum
namespace Go.Proofs.YtjolflpmeodnaagDoor
open Go.RowKit

/-- Is a field one of these? -/
def hasB (f : Int) (i : Nat) : Bool := bits .and .u16 f (2 ^ i) != 0

set_option maxHeartbeats 400000 in
theorem rhas_any (f : Int) (i : Nat) (w : World) (hi : i < 10) :
    Calls Tryd.prog 38 #[.int .u16 f, .int .i64 i] w fun e w' => e = .returned (.bool (hasB f i)) ∧ w = w' := by
  have h63 : (i : Int) < 64 := by omega
  have h2 : (2 : Int) ^ i ≤ 512 := by
    have : i = 0 ∨ i = 1 ∨ i = 2 ∨ i = 3 ∨ i = 4 ∨ i = 5 ∨ i = 6 ∨ i = 7 ∨ i = 8 ∨ i = 9 := by omega
    rcases this with rfl | rfl | rfl | rfl | rfl | rfl | rfl | rfl | rfl | rfl <;> decide
  have h20 : (0 : Int) < (2 : Int) ^ i := Int.pow_pos (by omega)
  have hw : IntKind.u16.wrap ((2 : Int) ^ i) = 2 ^ i := by simp only [IntKind.wrap, IntKind.bits, IntKind.signed]; simp; omega
  go_enter Tryd.func38, Tryd.ntmps38
  go_wp2
  go_ret
  exact ⟨rfl, rfl⟩

set_option maxHeartbeats 400000 in
theorem rbetween_any (n lo hi : Int) (w : World) :
    Calls Tryd.prog 52 #[.int .i64 n, .int .i64 lo, .int .i64 hi] w fun e w' => e = .returned (.bool (decide (lo ≤ n) && decide (n ≤ hi))) ∧ w = w' := by
  by_cases h1 : lo ≤ n
  · have h1' : decide (lo ≤ n) = true := decide_eq_true h1
    go_enter Tryd.func52, Tryd.ntmps52
    go_wp2
    go_ret
    exact ⟨by rw [h1']; rfl, rfl⟩
  · have h1' : decide (lo ≤ n) = false := decide_eq_false h1
    go_enter Tryd.func52, Tryd.ntmps52
    go_wp2
    go_ret
    exact ⟨rfl, rfl⟩

/-- A number that a field may be. -/
def numB (i : Nat) (n : Int) : Bool := if i = 0 then (decide (1 ≤ n) && decide (n ≤ 4611686018427387903)) else if i = 1 then (decide (1 ≤ n) && decide (n ≤ 4611686018427387902)) else (decide (0 ≤ n) && decide (n ≤ 4611686018427387903))
set_option maxHeartbeats 400000 in
theorem numberMayBe_any (i : Nat) (n : Int) (w : World) :
    Calls Tryd.prog 51 #[.int .i64 i, .int .i64 n] w fun e w' => e = .returned (.bool (numB i n)) ∧ w = w' := by
  by_cases h0 : i = 0
  · subst h0
    go_enter Tryd.func51, Tryd.ntmps51
    go_wp2_with (go_at_call 52; refine (rbetween_any _ _ _ _).mono ?_; rintro e w' ⟨rfl, rfl⟩)
    go_ret
    exact ⟨rfl, rfl⟩
  · by_cases h1 : i = 1
    · subst h1
      go_enter Tryd.func51, Tryd.ntmps51
      go_wp2_with (go_at_call 52; refine (rbetween_any _ _ _ _).mono ?_; rintro e w' ⟨rfl, rfl⟩)
      go_ret
      exact ⟨rfl, rfl⟩
    · have h0' : ¬ (i : Int) = 0 := by omega
      have h1' : ¬ (i : Int) = 1 := by omega
      have hn : numB i n = (decide (0 ≤ n) && decide (n ≤ 4611686018427387903)) := by unfold numB; rw [if_neg h0, if_neg h1]
      rw [hn]
      clear hn
      go_enter Tryd.func51, Tryd.ntmps51
      go_wp2_with (go_at_call 52; refine (rbetween_any _ _ _ _).mono ?_; rintro e w' ⟨rfl, rfl⟩)
      go_ret
      exact ⟨rfl, rfl⟩

/-- The kinds' fields. -/
def kiT : List Int := [0, 65, 64, 623, 131, 3, 635, 3, 131, 3, 3, 320, 107]
/-- The table of the kinds' fields lies where its initialiser laid it. -/
def Tab6 (w : World) : Prop := ∀ i : Nat, i < 13 → w.cell? ⟨0, i, none⟩ = some (.int .u16 (kiT.getD i 0))
theorem Tab6.below {w w' : World} {B : Nat} (h : Tab6 w) (hb : Below B w w') (hB : 0 < B) : Tab6 w' := fun i hi => (hb.cell (p := ⟨0, i, none⟩) hB).trans (h i hi)
theorem tab6_pos {w : World} (h : Tab6 w) : 0 < w.heap.size := World.block_lt_of_cell? w ⟨0, 0, none⟩ (h 0 (by omega))

abbrev nextV : Value := .agg #[.int .i64 2, .int .i64 0, .int .i64 0, .int .i64 0, .int .i64 0, .int .i64 0, .int .i64 0, .int .i64 300, .int .i64 0, .slice none 0 0, .slice none 0 0]
abbrev nextO : Obj := .cells #[.int .i64 2, .int .i64 0, .int .i64 0, .int .i64 0, .int .i64 0, .int .i64 0, .int .i64 0, .int .i64 300, .int .i64 0, .slice none 0 0, .slice none 0 0] 27
abbrev nextN : Value := .agg #[.int .i64 0, .int .i64 0, .int .i64 0, .int .i64 0, .int .i64 0, .int .i64 0, .int .i64 300, .int .i64 0]

set_option maxHeartbeats 400000 in
theorem fieldsOf_next (w : World) (hT : Tab6 w) :
    Calls Tryd.prog 34 #[.int .i64 2] w fun e w' => e = .returned (.int .u16 64) ∧ w = w' := by
  have h2 : w.cell? ⟨0, 2, none⟩ = some (.int .u16 64) := hT 2 (by omega)
  clear hT
  go_enter Tryd.func34, Tryd.ntmps34
  go_wp2
  go_ret
  exact ⟨rfl, rfl⟩

set_option maxRecDepth 100000 in
set_option maxHeartbeats 400000 in
theorem numbersOf_next (w : World) :
    Calls Tryd.prog 37 #[nextV] w fun e w' => e = .returned nextN ∧ Below w.heap.size w w' := by
  go_enter Tryd.func37, Tryd.ntmps37
  go_wp2
  refine bodyPost_ret (v := nextN) (by simp [results, Tryd.results37, go_sem]) rfl ?_
  exact ⟨rfl, ((Below.refl _ _).alloc (Nat.le_refl _) _).alloc (by simp) _⟩

theorem heap_new6 (w : World) (o : Obj) : (w.alloc o).heap[w.heap.size]? = some o := by
  have : (w.alloc o).heap = w.heap.push o := rfl
  rw [this]; simp
theorem next_cells {W : World} {g : Nat} (h : W.heap[g]? = some nextO) : W.cell? ⟨g, 0, none⟩ = some (.int .i64 2) ∧ W.cell? ⟨g, 1, none⟩ = some (.int .i64 0) ∧ W.cell? ⟨g, 2, none⟩ = some (.int .i64 0) ∧ W.cell? ⟨g, 3, none⟩ = some (.int .i64 0) ∧ W.cell? ⟨g, 4, none⟩ = some (.int .i64 0) ∧ W.cell? ⟨g, 5, none⟩ = some (.int .i64 0) ∧ W.cell? ⟨g, 6, none⟩ = some (.int .i64 0) ∧ W.cell? ⟨g, 7, none⟩ = some (.int .i64 300) ∧ W.cell? ⟨g, 8, none⟩ = some (.int .i64 0) ∧ W.cell? ⟨g, 9, none⟩ = some (.slice none 0 0) ∧ W.cell? ⟨g, 10, none⟩ = some (.slice none 0 0) :=
  ⟨cell_of_row _ _ 0 _ _ _ h, cell_of_row _ _ 1 _ _ _ h, cell_of_row _ _ 2 _ _ _ h, cell_of_row _ _ 3 _ _ _ h, cell_of_row _ _ 4 _ _ _ h, cell_of_row _ _ 5 _ _ _ h, cell_of_row _ _ 6 _ _ _ h, cell_of_row _ _ 7 _ _ _ h, cell_of_row _ _ 8 _ _ _ h, cell_of_row _ _ 9 _ _ _ h, cell_of_row _ _ 10 _ _ _ h⟩
theorem hasB64 : hasB 64 0 = false ∧ hasB 64 1 = false ∧ hasB 64 2 = false ∧ hasB 64 3 = false ∧ hasB 64 4 = false ∧ hasB 64 5 = false ∧ hasB 64 6 = true ∧ hasB 64 7 = false ∧ hasB 64 8 = false ∧ hasB 64 9 = false := by decide

set_option maxRecDepth 100000 in
set_option maxHeartbeats 1000000 in
theorem allow_next (w : World) :
    Calls Tryd.prog 35 #[.int .u16 64, nextV] w fun e w' => e = .returned (.bool true) ∧ Below w.heap.size w w' := by
  obtain ⟨b0, b1, b2, b3, b4, b5, b6, b7, b8, b9⟩ := hasB64
  have hn := numbersOf_next (w.alloc nextO)
  have hB : Below w.heap.size w (w.alloc nextO) := (Below.refl _ _).alloc (Nat.le_refl _) _
  have hX : (w.alloc nextO).heap[w.heap.size]? = some nextO := heap_new6 w _
  have i0 : ∀ w, (Instr.index 78 nextN (.int .i64 0)).run Tryd.prog w = .ok (.int .i64 0) w := fun _ => by kernel_rfl
  have i1 : ∀ w, (Instr.index 78 nextN (.int .i64 1)).run Tryd.prog w = .ok (.int .i64 0) w := fun _ => by kernel_rfl
  have i2 : ∀ w, (Instr.index 78 nextN (.int .i64 2)).run Tryd.prog w = .ok (.int .i64 0) w := fun _ => by kernel_rfl
  have i3 : ∀ w, (Instr.index 78 nextN (.int .i64 3)).run Tryd.prog w = .ok (.int .i64 0) w := fun _ => by kernel_rfl
  have i4 : ∀ w, (Instr.index 78 nextN (.int .i64 4)).run Tryd.prog w = .ok (.int .i64 0) w := fun _ => by kernel_rfl
  have i5 : ∀ w, (Instr.index 78 nextN (.int .i64 5)).run Tryd.prog w = .ok (.int .i64 0) w := fun _ => by kernel_rfl
  have i6 : ∀ w, (Instr.index 78 nextN (.int .i64 6)).run Tryd.prog w = .ok (.int .i64 300) w := fun _ => by kernel_rfl
  have i7 : ∀ w, (Instr.index 78 nextN (.int .i64 7)).run Tryd.prog w = .ok (.int .i64 0) w := fun _ => by kernel_rfl
  go_enter Tryd.func35, Tryd.ntmps35
  go_wp2_with fail
  refine hn.mono ?_
  rintro e w1 ⟨rfl, hb1⟩
  have HB1 : Hid (Below w.heap.size w w1) := hB.trans (hb1.mono hB.size)
  have HX1 := (hb1.block _ (by simp)).trans hX
  have c9 := cell_of_row _ _ 9 _ _ _ HX1
  have c10 := cell_of_row _ _ 10 _ _ _ HX1
  clear hn hB hX hb1 HX1
  go_wp2_with fail
  go_loop [9] (fun i => ∃ k : Nat, k ≤ 8 ∧ i = .int .i64 k) (fun i => 8 - (intOf i).toNat)
  case atStart => exact ⟨0, by omega, rfl⟩
  case round =>
    obtain ⟨k, hk, rfl⟩ := hrel
    have : k = 0 ∨ k = 1 ∨ k = 2 ∨ k = 3 ∨ k = 4 ∨ k = 5 ∨ k = 6 ∨ k = 7 ∨ k = 8 := by omega
    rcases this with rfl | rfl | rfl | rfl | rfl | rfl | rfl | rfl | rfl
    case inr.inr.inr.inr.inr.inr.inr.inr =>
      go_wp2_with (go_at_call 38; refine (rhas_any _ _ _ (by decide)).mono ?_; rintro e w' ⟨rfl, rfl⟩)
      go_ret
      exact ⟨rfl, HB1.out⟩
    all_goals
      go_wp2_with (first | (go_at_call 38; refine (rhas_any _ _ _ (by decide)).mono ?_; rintro e w' ⟨rfl, rfl⟩) | (go_at_call 51; refine (numberMayBe_any _ _ _).mono ?_; rintro e w' ⟨rfl, rfl⟩))
      go_round
      case rel => exact ⟨_, by decide, rfl⟩
      case measure => simp [intOf]

set_option maxRecDepth 100000 in
set_option maxHeartbeats 1000000 in
theorem suits_next (w : World) :
    Calls Tryd.prog 36 #[nextV] w fun e w' => e = .returned (.bool true) ∧ Below w.heap.size w w' := by
  go_enter Tryd.func36, Tryd.ntmps36
  go_wp2
  go_ret
  exact ⟨rfl, (Below.refl _ _).alloc (Nat.le_refl _) _⟩

set_option maxRecDepth 100000 in
set_option maxHeartbeats 1000000 in
theorem mayBe_next (w : World) (hT : Tab6 w) :
    Calls Tryd.prog 18 #[nextV] w fun e w' => e = .returned (.bool true) ∧ Below w.heap.size w w' := by
  have HB : Hid (Below w.heap.size w (w.alloc nextO)) := (Below.refl _ _).alloc (Nat.le_refl _) _
  have hf := fieldsOf_next (w.alloc nextO) (hT.below HB.out (tab6_pos hT))
  have HX : Hid ((w.alloc nextO).heap[w.heap.size]? = some nextO) := heap_new6 w _
  clear hT
  go_enter Tryd.func18, Tryd.ntmps18
  go_wp2_with (first
    | (go_at_call 34; refine hf.mono ?_; rintro e w1 ⟨rfl, rfl⟩)
    | (go_at_call 35; refine (allow_next _).mono ?_; rintro e w2 ⟨rfl, hb2⟩; have HB2 : Hid (Below w.heap.size w w2) := HB.out.trans (hb2.mono HB.out.size); have HX2 : w2.heap[w.heap.size]? = some nextO := (hb2.block _ (by simp)).trans HX.out; obtain ⟨c0, c1, c2, c3, c4, c5, c6, c7, c8, c9, c10⟩ := next_cells HX2)
    | (go_at_call 36; refine (suits_next _).mono ?_; rintro e w3 ⟨rfl, hb3⟩; have HB3 : Hid (Below w.heap.size w w3) := HB2.out.trans (hb3.mono HB2.out.size)))
  go_ret
  exact ⟨rfl, HB3.out⟩

theorem own_below6 {w w' : World} {base size n : Nat} {e : TypeId} {v : Value} {xs : List Value} (h : w.ownsRow base e size v n xs) (hg : Below w.heap.size w w') : w'.ownsRow base e size v n xs := by
  have hlt := h.lt
  obtain ⟨hl, h | ⟨g, cap, cur, rfl, hb, hh, r⟩⟩ := h
  · exact ⟨hl, .inl h⟩
  · refine ⟨hl, .inr ⟨g, cap, cur, rfl, hb, ?_, r⟩⟩
    rw [hg.block g (hlt g rfl).2]; exact hh

/-- What is no bytes stays as it is. -/
def Keeps8 (w w' : World) : Prop := ∀ (g : Nat) (cs : Array Value) (t : TypeId) (fr : Nat × Nat), w.heap[g]? = some (.cells cs t fr) → t ≠ 5 → w'.heap[g]? = some (.cells cs t fr)
theorem Keeps8.refl (w : World) : Keeps8 w w := fun _ _ _ _ h _ => h
theorem Keeps8.trans {w w' w'' : World} (h : Keeps8 w w') (h' : Keeps8 w' w'') : Keeps8 w w'' := fun g cs t fr hg ht => h' g cs t fr (h g cs t fr hg ht) ht
theorem Keeps8.below {w w' : World} (h : Below w.heap.size w w') : Keeps8 w w' := fun g _ _ _ hg _ => (h.block g (Array.getElem?_eq_some_iff.mp hg).1).trans hg
theorem Keeps8.grown {w w' : World} {base n : Nat} {v : Value} {xs : List Value} (ho : w.ownsRow base 5 1 v n xs) (hg : w.grownBy w' v.ownBlock) : Keeps8 w w' := fun g cs t fr hc ht => by
  refine (hg.block g (Array.getElem?_eq_some_iff.mp hc).1 ?_).trans hc
  intro e
  obtain ⟨_, ⟨rfl, _⟩ | ⟨g', cap, cur, rfl, _, hh, _⟩⟩ := ho
  · cases e
  · have e' : g = g' := by simpa [Value.ownBlock] using e
    subst e'
    rw [hh] at hc
    simp only [Option.some.injEq, Obj.cells.injEq] at hc
    exact ht hc.2.1.symm

set_option maxRecDepth 100000 in
set_option maxHeartbeats 1000000 in
theorem putNumber_any (v : Value) (m : Nat) (xs : List Value) (base : Nat) (n : Int) (w : World) (h0 : 0 ≤ n) (h1 : n ≤ 4611686018427387903)
    (hown : w.ownsRow base 5 1 v m xs) (hbase : base ≤ w.heap.size) (hm : m + 10 ≤ 140737488355328) :
    Calls Tryd.prog 39 #[v, .int .i64 n] w fun e w' => ∃ v', e = .returned v' ∧
      w'.ownsRow base 5 1 v' (m + sz n) (xs ++ (enc n).map (Value.int .u8)) ∧ Below base w w' ∧ Keeps8 w w' := by
  obtain ⟨i0, hi, hz0, hz1, hz2⟩ := info_parts Tryd.info_u8
  have hs := sz_bounds n h0 (by omega)
  have hwr : IntKind.u64.wrap n = n := by rw [IntKind.wrap_u64]; omega
  go_enter Tryd.func39, Tryd.ntmps39
  go_wp2_with (first
    | (go_at_call 55; refine (bytes_any n w h0 (by omega)).mono ?_; rintro e w1 ⟨g, cap, rfl, ho1, hb1⟩; have HO1 := own_below6 hown hb1; have HL := own_lies ho1; have hs1 := hb1.size)
    | (at_builtin; refine append_any _ rfl _ _ 25 rfl base 5 i0 (.int .u8 0) 1 Tryd.underlying25 hi hz0 hz1 hz2 rfl _ _ _ rfl HO1 .u8 _ _ _ (enc n) rfl (by intro h; cases h) HL.2 HL.1 (by unfold maxLen; omega) (by omega) (by omega) ?_; intro v2 w2 hown2 hg2))
  go_ret
  exact ⟨v2, rfl, hown2, own_grown (hb1.mono hbase) hg2 HO1 (by omega), (Keeps8.below hb1).trans (Keeps8.grown HO1 hg2)⟩

theorem own_base6 {w : World} {base base' size n : Nat} {e : TypeId} {v : Value} {xs : List Value} (h : w.ownsRow base e size v n xs) (hb : base' ≤ base) : w.ownsRow base' e size v n xs :=
  ⟨h.1, h.2.imp id fun ⟨g, cap, cur, h1, h2, h3⟩ => ⟨g, cap, cur, h1, Nat.le_trans hb h2, h3⟩⟩
/-- What stands in the row as the numbers are put there. -/
def FrmO (w : World) (base : Nat) (v : Value) (k : Nat) : Prop :=
  (k ≤ 6 ∧ w.ownsRow base 5 1 v 1 [.int .u8 2]) ∨ (6 < k ∧ w.ownsRow base 5 1 v 3 [.int .u8 2, .int .u8 130, .int .u8 44])
theorem FrmO.six {w : World} {base : Nat} {v : Value} (h : FrmO w base v 6) : w.ownsRow base 5 1 v 1 [.int .u8 2] := by
  rcases h with h | h
  · exact h.2
  · omega
theorem FrmO.end {w : World} {base : Nat} {v : Value} (h : FrmO w base v 8) : w.ownsRow base 5 1 v 3 [.int .u8 2, .int .u8 130, .int .u8 44] := by
  rcases h with h | h
  · omega
  · exact h.2
theorem FrmO.next {w : World} {base k : Nat} {v : Value} (h : FrmO w base v k) (hk : k ≠ 6) : FrmO w base v (k + 1) := by
  rcases h with h | h
  · exact .inl ⟨by omega, h.2⟩
  · exact .inr ⟨by omega, h.2⟩
theorem enc300 : enc 300 = [130, 44] ∧ sz 300 = 2 := by decide

set_option maxRecDepth 100000 in
set_option maxHeartbeats 1000000 in
theorem form_next (w : World) (hT : Tab6 w) :
    Calls Tryd.prog 19 #[nextV] w fun e w' => ∃ v', e = .returned v' ∧ w'.ownsRow w.heap.size 5 1 v' 3 [.int .u8 2, .int .u8 130, .int .u8 44] ∧ Below w.heap.size w w' := by
  obtain ⟨b0, b1, b2, b3, b4, b5, b6, b7, b8, b9⟩ := hasB64
  have i0 : ∀ w, (Instr.index 78 nextN (.int .i64 0)).run Tryd.prog w = .ok (.int .i64 0) w := fun _ => by kernel_rfl
  have i1 : ∀ w, (Instr.index 78 nextN (.int .i64 1)).run Tryd.prog w = .ok (.int .i64 0) w := fun _ => by kernel_rfl
  have i2 : ∀ w, (Instr.index 78 nextN (.int .i64 2)).run Tryd.prog w = .ok (.int .i64 0) w := fun _ => by kernel_rfl
  have i3 : ∀ w, (Instr.index 78 nextN (.int .i64 3)).run Tryd.prog w = .ok (.int .i64 0) w := fun _ => by kernel_rfl
  have i4 : ∀ w, (Instr.index 78 nextN (.int .i64 4)).run Tryd.prog w = .ok (.int .i64 0) w := fun _ => by kernel_rfl
  have i5 : ∀ w, (Instr.index 78 nextN (.int .i64 5)).run Tryd.prog w = .ok (.int .i64 0) w := fun _ => by kernel_rfl
  have i6 : ∀ w, (Instr.index 78 nextN (.int .i64 6)).run Tryd.prog w = .ok (.int .i64 300) w := fun _ => by kernel_rfl
  have i7 : ∀ w, (Instr.index 78 nextN (.int .i64 7)).run Tryd.prog w = .ok (.int .i64 0) w := fun _ => by kernel_rfl
  have HB : Hid (Below w.heap.size w (w.alloc nextO)) := (Below.refl _ _).alloc (Nat.le_refl _) _
  have hf := fieldsOf_next (w.alloc nextO) (hT.below HB.out (tab6_pos hT))
  have HX : Hid ((w.alloc nextO).heap[w.heap.size]? = some nextO) := heap_new6 w _
  clear hT
  go_enter Tryd.func19, Tryd.ntmps19
  go_wp2_with (go_at_call 34; refine hf.mono ?_; rintro e w1 ⟨rfl, rfl⟩)
  go_at_call 37
  refine (numbersOf_next _).mono ?_
  rintro e w1 ⟨rfl, hb1⟩
  have HB1 : Hid (Below w.heap.size w w1) := (HB.out.alloc HB.out.size (Obj.cells #[Value.int IntKind.u8 2] 5)).trans (hb1.mono (by simp; omega))
  have HO1 : Hid (FrmO w1 w.heap.size (.slice (some ⟨w.heap.size + 1, 0, none⟩) 1 1) 0) := by
    have h1 : ((w.alloc nextO).alloc (.cells #[.int .u8 2] 5)).ownsRow w.heap.size 5 1 (.slice (some ⟨(w.alloc nextO).heap.size, 0, none⟩) 1 1) 1 [.int .u8 2] := World.ownsRow_lit (w.alloc nextO) #[.int .u8 2] 1 (by simp) (by unfold maxLen; omega) rfl
    have h2 := own_below6 h1 hb1
    exact .inl ⟨by omega, by simpa using h2⟩
  clear hf hb1 HX HB
  go_wp2_with fail
  go_loopw [4, 16] (fun b i wr => ∃ k : Nat, k ≤ 8 ∧ i = .int .i64 k ∧ FrmO wr w.heap.size b k ∧ Below w.heap.size w wr) (fun _ i _ => 8 - (intOf i).toNat)
  case atStart => exact ⟨0, by omega, rfl, HO1.out, HB1.out⟩
  case round =>
    obtain ⟨k, hk, rfl, ho, hb⟩ := hrel
    have HO : Hid (FrmO wr w.heap.size u4 k) := ho
    have HB : Hid (Below w.heap.size w wr) := hb
    clear ho hb HO1 HB1
    have hsz := HB.out.size
    have : k = 6 ∨ k = 8 ∨ k = 0 ∨ k = 1 ∨ k = 2 ∨ k = 3 ∨ k = 4 ∨ k = 5 ∨ k = 7 := by omega
    rcases this with rfl | rfl | rfl | rfl | rfl | rfl | rfl | rfl | rfl
    case inl =>
      go_wp2_with (first
        | (go_at_call 38; refine (rhas_any _ _ _ (by decide)).mono ?_; rintro e w' ⟨rfl, rfl⟩)
        | (go_at_call 39; refine (putNumber_any _ _ _ _ _ _ (by decide) (by decide) HO.out.six hsz (by omega)).mono ?_; rintro e w2 ⟨v2, rfl, ho2, hb2, _⟩))
      go_roundw
      case rel => exact ⟨7, by omega, rfl, .inr ⟨by omega, by rw [enc300.1, enc300.2] at ho2; exact ho2⟩, HB.out.trans hb2⟩
      case measure => simp [intOf]
    case inr.inl =>
      go_wp2_with (go_at_call 38; refine (rhas_any _ _ _ (by decide)).mono ?_; rintro e w' ⟨rfl, rfl⟩)
      go_ret
      exact ⟨_, rfl, HO.out.end, HB.out⟩
    all_goals
      go_wp2_with (go_at_call 38; refine (rhas_any _ _ _ (by decide)).mono ?_; rintro e w' ⟨rfl, rfl⟩)
      go_roundw
      case rel => exact ⟨_, by decide, rfl, HO.out.next (by decide), HB.out⟩
      case measure => simp [intOf]

set_option maxRecDepth 100000 in
set_option maxHeartbeats 1000000 in
theorem rprint_next (w : World) (hT : Tab6 w) :
    Calls Tryd.prog 7 #[nextV] w fun e w' => ∃ v', e = .returned (.tuple #[v', .int .i64 0]) ∧ w'.ownsRow w.heap.size 5 1 v' 3 [.int .u8 2, .int .u8 130, .int .u8 44] ∧ Below w.heap.size w w' := by
  have HB : Hid (Below w.heap.size w (w.alloc nextO)) := (Below.refl _ _).alloc (Nat.le_refl _) _
  have hm := mayBe_next (w.alloc nextO) (hT.below HB.out (tab6_pos hT))
  have HT : Hid (∀ W, Below w.heap.size w W → Tab6 W) := fun W hW => hT.below hW (tab6_pos hT)
  have HX : Hid ((w.alloc nextO).heap[w.heap.size]? = some nextO) := heap_new6 w _
  clear hT
  go_enter Tryd.func7, Tryd.ntmps7
  go_wp2_with (first
    | (go_at_call 18; refine hm.mono ?_; rintro e w1 ⟨rfl, hb1⟩; have HB1 : Hid (Below w.heap.size w w1) := HB.out.trans (hb1.mono HB.out.size); have HX2 : w1.heap[w.heap.size]? = some nextO := (hb1.block _ (by simp)).trans HX.out; obtain ⟨c0, c1, c2, c3, c4, c5, c6, c7, c8, c9, c10⟩ := next_cells HX2)
    | (go_at_call 19; refine (form_next _ (HT.out _ HB1.out)).mono ?_; rintro e w2 ⟨v2, rfl, ho2, hb2⟩))
  go_ret2
  exact ⟨v2, rfl, own_base6 ho2 HB1.out.size, HB1.out.trans (hb2.mono HB1.out.size)⟩

set_option maxRecDepth 100000 in
set_option maxHeartbeats 1000000 in
/-- The document's first example. -/
theorem awake6_any (w : World) (hT : Tab6 w) :
    Calls Tryd.prog 6 #[] w fun e w' => e = .returned (.bool true) ∧ Below w.heap.size w w' := by
  have hp := rprint_next w hT
  clear hT
  go_enter Tryd.func6, Tryd.ntmps6
  go_wp2_with fail
  refine hp.mono ?_
  rintro e w1 ⟨v1, rfl, ho1, hb1⟩
  have HB1 : Hid (Below w.heap.size w w1) := hb1
  clear hp hb1
  obtain ⟨a1, p1, rfl⟩ := own_shape ho1
  have hl := (own_lies (xs := [2, 130, 44]) ho1).1
  rcases hl with h | ⟨g, off, rfl, hc⟩
  · cases h
  · have c0 := hc 0 (by decide)
    have c1 := hc 1 (by decide)
    have c2 := hc 2 (by decide)
    clear hc ho1
    simp only [List.getD_cons_zero, List.getD_cons_succ, Nat.add_zero] at c0 c1 c2
    go_wp2
    go_ret
    exact ⟨rfl, HB1.out⟩
end Go.Proofs.YtjolflpmeodnaagDoor
