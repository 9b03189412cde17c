import Derived.Test.YtllhbhogfffedaaGreatDoorNums
namespace Go.Proofs.YtllhbhogfffedaaGreatDoor
open Go.RowKit

theorem byte_at {zs : List Int} {k : Nat} (hb : Bytey zs) (h : k < zs.length) : 0 ≤ zs.getD k 0 ∧ zs.getD k 0 ≤ 255 := by
  rw [List.getD_eq_getElem?_getD, List.getElem?_eq_getElem h]; exact hb _ (List.getElem_mem h)
theorem take_snoc' (l : List Int) (k : Nat) (h : k < l.length) : l.take (k + 1) = l.take k ++ [l.getD k 0] := by
  rw [List.take_add_one, List.getD_eq_getElem?_getD, List.getElem?_eq_getElem h]; rfl
theorem crc_byte {zs : List Int} {k : Nat} (hb : Bytey zs) : crc 4294967295 (zs.take k) < 4294967296 :=
  crc_lt _ (fun z hz => by have := hb z (List.mem_of_mem_take hz); omega) (by omega)
theorem xor_byte {x : Nat} {z : Int} (hx : x < 4294967296) (h0 : 0 ≤ z) (h1 : z ≤ 255) : bits .xor .u32 (x : Int) z = ((x ^^^ z.toNat : Nat) : Int) := by
  have := xor_u32 (a := x) (b := z.toNat) hx (by omega)
  rwa [Int.toNat_of_nonneg h0] at this

set_option maxHeartbeats 400000 in
theorem sum_some (b off : Nat) (zs : List Int) (cap : Nat) (w : World) (hb : Bytey zs) (hl : zs.length ≤ 140737488355328)
    (hc : ∀ i, i < zs.length → w.cell? ⟨b, off + i, none⟩ = some (.int .u8 (zs.getD i 0))) :
    Calls Tryz.prog 103 #[.slice (some ⟨b, off, none⟩) zs.length cap] w fun e w' => e = .returned (.int .u32 (crs zs : Nat)) ∧ w = w' := by
  have HB : Hid (Bytey zs) := hb
  clear hb
  go_enter Tryz.func103, Tryz.ntmps103
  go_wp2_with fail
  go_loop [3, 8] (fun c i => ∃ k : Nat, k ≤ zs.length ∧ i = .int .i64 k ∧ c = .int .u32 (crc 4294967295 (zs.take k) : Nat)) (fun _ i => zs.length - (intOf i).toNat)
  case atStart => exact ⟨0, Nat.zero_le _, rfl, rfl⟩
  case round =>
    obtain ⟨k, hk, rfl, rfl⟩ := hrel
    by_cases hlt : k < zs.length
    · have hcx := hc k hlt
      obtain ⟨hz0, hz1⟩ := byte_at HB.out hlt
      have HT : Hid (crc 4294967295 (zs.take (k + 1)) = cit 8 (crc 4294967295 (zs.take k) ^^^ (zs.getD k 0).toNat)) := by
        unfold Hid; rw [take_snoc' zs k hlt, crc_snoc]
      have hx := crc_byte (k := k) HB.out
      generalize crc 4294967295 (zs.take k) = x at *
      generalize zs.getD k 0 = z at *
      have hxz := xor_byte hx hz0 hz1
      have hy : x ^^^ z.toNat < 4294967296 := xb_lt hx (by omega)
      generalize x ^^^ z.toNat = y at *
      clear hc
      go_wp2_with fail
      go_loop [3, 16] (fun c i => ∃ j : Nat, j ≤ 8 ∧ i = .int .i64 j ∧ c = .int .u32 (cit j y : Nat)) (fun _ i => 8 - (intOf i).toNat)
      case atStart => exact ⟨0, Nat.zero_le _, rfl, rfl⟩
      case round =>
        obtain ⟨j, hj, rfl, rfl⟩ := hrel
        by_cases hj8 : j < 8
        · have hcy := cit_lt j hy
          have HC : Hid (cit (j + 1) y = cst (cit j y)) := cit_succ j y
          generalize cit j y = u at *
          have h1 := and1_u32 hcy
          have h2 := shift_u32 hcy
          go_wp2
          go_round
          case rel => exact ⟨j + 1, by omega, congrArg (Value.int IntKind.i64) (by omega), by rw [HC.out, ← h2]⟩
          case measure => simp [intOf]; omega
        · have he : j = 8 := by omega
          subst he
          go_wp2
          go_round
          case rel => exact ⟨k + 1, by omega, congrArg (Value.int IntKind.i64) (by omega), by rw [HT.out]⟩
          case measure => simp [intOf]; omega
    · have he : k = zs.length := by omega
      subst he
      have hx := crc_byte (k := zs.length) HB.out
      rw [List.take_length] at hx ⊢
      have HE : Hid (crs zs = crc 4294967295 zs ^^^ 4294967295) := rfl
      generalize crc 4294967295 zs = x at *
      have hxx := xor_u32 (a := 4294967295) (b := x) (by omega) hx
      rw [Nat.xor_comm] at hxx
      go_wp2
      go_ret
      exact ⟨congrArg (fun n => Ending.returned (Value.int IntKind.u32 n)) (hxx.trans (by rw [HE.out])), rfl⟩

set_option maxHeartbeats 400000 in
theorem sum_none (a : Option Addr) (cap : Nat) (w : World) :
    Calls Tryz.prog 103 #[.slice a 0 cap] w fun e w' => e = .returned (.int .u32 (crs [] : Nat)) ∧ w = w' := by
  go_enter Tryz.func103, Tryz.ntmps103
  go_wp2_with fail
  refine wp_loop_rounds 1 ?_
  rw [rounds_succ]
  go_wp2
  go_ret
  exact ⟨rfl, rfl⟩
theorem sum_any (a : Option Addr) (zs : List Int) (len cap : Nat) (w : World) (hb : Bytey zs) (hl : zs.length = len) (hm : len ≤ 140737488355328) (hc : Lies .u8 w a zs) :
    Calls Tryz.prog 103 #[.slice a len cap] w fun e w' => e = .returned (.int .u32 (crs zs : Nat)) ∧ w = w' := by
  subst hl
  rcases hc with rfl | ⟨b, off, rfl, hc⟩
  · exact sum_none a cap w
  · exact sum_some b off zs cap w hb hm hc

set_option maxHeartbeats 400000 in
theorem rsum_some (b off : Nat) (zs : List Int) (cap : Nat) (w : World) (hb : Bytey zs) (hl : zs.length ≤ 140737488355328)
    (hc : ∀ i, i < zs.length → w.cell? ⟨b, off + i, none⟩ = some (.int .u8 (zs.getD i 0))) :
    Calls Tryz.prog 53 #[.slice (some ⟨b, off, none⟩) zs.length cap] w fun e w' => e = .returned (.int .u32 (crs zs : Nat)) ∧ w = w' := by
  have HB : Hid (Bytey zs) := hb
  clear hb
  go_enter Tryz.func53, Tryz.ntmps53
  go_wp2_with fail
  go_loop [3, 4] (fun c i => ∃ k : Nat, k ≤ zs.length ∧ i = .int .i64 k ∧ c = .int .u32 (crc 4294967295 (zs.take k) : Nat)) (fun _ i => zs.length - (intOf i).toNat)
  case atStart => exact ⟨0, Nat.zero_le _, rfl, rfl⟩
  case round =>
    obtain ⟨k, hk, rfl, rfl⟩ := hrel
    by_cases hlt : k < zs.length
    · have hcx := hc k hlt
      obtain ⟨hz0, hz1⟩ := byte_at HB.out hlt
      have HT : Hid (crc 4294967295 (zs.take (k + 1)) = cit 8 (crc 4294967295 (zs.take k) ^^^ (zs.getD k 0).toNat)) := by
        unfold Hid; rw [take_snoc' zs k hlt, crc_snoc]
      have hx := crc_byte (k := k) HB.out
      generalize crc 4294967295 (zs.take k) = x at *
      generalize zs.getD k 0 = z at *
      have hxz := xor_byte hx hz0 hz1
      have hy : x ^^^ z.toNat < 4294967296 := xb_lt hx (by omega)
      generalize x ^^^ z.toNat = y at *
      clear hc
      go_wp2_with fail
      go_loop [3, 5] (fun c i => ∃ j : Nat, j ≤ 8 ∧ i = .int .i64 j ∧ c = .int .u32 (cit j y : Nat)) (fun _ i => 8 - (intOf i).toNat)
      case atStart => exact ⟨0, Nat.zero_le _, rfl, rfl⟩
      case round =>
        obtain ⟨j, hj, rfl, rfl⟩ := hrel
        by_cases hj8 : j < 8
        · have hcy := cit_lt j hy
          have HC : Hid (cit (j + 1) y = cst (cit j y)) := cit_succ j y
          generalize cit j y = u at *
          by_cases ho : u % 2 = 1
          · have ho' : (u : Int) % 2 = 1 := by omega
            have h2 := shift_odd hcy ho
            go_wp2
            go_round
            case rel => exact ⟨j + 1, by omega, congrArg (Value.int IntKind.i64) (by omega), by rw [HC.out, ← h2]⟩
            case measure => simp [intOf]; omega
          · have ho' : ¬ (u : Int) % 2 = 1 := by omega
            have h2 := shift_even ho
            go_wp2
            go_round
            case rel => exact ⟨j + 1, by omega, congrArg (Value.int IntKind.i64) (by omega), by rw [HC.out, ← h2]⟩
            case measure => simp [intOf]; omega
        · have he : j = 8 := by omega
          subst he
          go_wp2
          go_round
          case rel => exact ⟨k + 1, by omega, congrArg (Value.int IntKind.i64) (by omega), by rw [HT.out]⟩
          case measure => simp [intOf]; omega
    · have he : k = zs.length := by omega
      subst he
      have hx := crc_byte (k := zs.length) HB.out
      rw [List.take_length] at hx ⊢
      have HE : Hid (crs zs = crc 4294967295 zs ^^^ 4294967295) := rfl
      generalize crc 4294967295 zs = x at *
      have hxx := xor_u32 (a := x) (b := 4294967295) hx (by omega)
      go_wp2
      go_ret
      exact ⟨congrArg (fun n => Ending.returned (Value.int IntKind.u32 n)) (hxx.trans (by rw [HE.out])), rfl⟩
set_option maxHeartbeats 400000 in
theorem rsum_none (a : Option Addr) (cap : Nat) (w : World) :
    Calls Tryz.prog 53 #[.slice a 0 cap] w fun e w' => e = .returned (.int .u32 (crs [] : Nat)) ∧ w = w' := by
  go_enter Tryz.func53, Tryz.ntmps53
  go_wp2_with fail
  refine wp_loop_rounds 1 ?_
  rw [rounds_succ]
  go_wp2
  go_ret
  exact ⟨rfl, rfl⟩
theorem rsum_any (a : Option Addr) (zs : List Int) (len cap : Nat) (w : World) (hb : Bytey zs) (hl : zs.length = len) (hm : len ≤ 140737488355328) (hc : Lies .u8 w a zs) :
    Calls Tryz.prog 53 #[.slice a len cap] w fun e w' => e = .returned (.int .u32 (crs zs : Nat)) ∧ w = w' := by
  subst hl
  rcases hc with rfl | ⟨b, off, rfl, hc⟩
  · exact rsum_none a cap w
  · exact rsum_some b off zs cap w hb hm hc
end Go.Proofs.YtllhbhogfffedaaGreatDoor

namespace Go.Proofs.YtllhbhogfffedaaGreatDoor
open Go.RowKit

/-- Is a field one of these? -/
def hasB (f : Int) (i : Nat) : Bool := bits .and .u16 f (2 ^ i) != 0

set_option maxHeartbeats 400000 in
theorem rhas_any (f : Int) (i : Nat) (w : World) (hi : i < 10) :
    Calls Tryz.prog 122 #[.int .u16 f, .int .i64 i] w fun e w' => e = .returned (.bool (hasB f i)) ∧ w = w' := by
  have h63 : (i : Int) < 64 := by omega
  have h2 : (2 : Int) ^ i ≤ 512 := by
    have : i = 0 ∨ i = 1 ∨ i = 2 ∨ i = 3 ∨ i = 4 ∨ i = 5 ∨ i = 6 ∨ i = 7 ∨ i = 8 ∨ i = 9 := by omega
    rcases this with rfl | rfl | rfl | rfl | rfl | rfl | rfl | rfl | rfl | rfl <;> decide
  have h20 : (0 : Int) < (2 : Int) ^ i := Int.pow_pos (by omega)
  have hw : IntKind.u16.wrap ((2 : Int) ^ i) = 2 ^ i := by simp only [IntKind.wrap, IntKind.bits, IntKind.signed]; simp; omega
  go_enter Tryz.func122, Tryz.ntmps122
  go_wp2
  go_ret
  exact ⟨rfl, rfl⟩

set_option maxHeartbeats 400000 in
theorem rbetween_any (n lo hi : Int) (w : World) :
    Calls Tryz.prog 132 #[.int .i64 n, .int .i64 lo, .int .i64 hi] w fun e w' => e = .returned (.bool (decide (lo ≤ n) && decide (n ≤ hi))) ∧ w = w' := by
  by_cases h1 : lo ≤ n
  · have h1' : decide (lo ≤ n) = true := decide_eq_true h1
    go_enter Tryz.func132, Tryz.ntmps132
    go_wp2
    go_ret
    exact ⟨by rw [h1']; rfl, rfl⟩
  · have h1' : decide (lo ≤ n) = false := decide_eq_false h1
    go_enter Tryz.func132, Tryz.ntmps132
    go_wp2
    go_ret
    exact ⟨rfl, rfl⟩

/-- A number that a field may be. -/
def numB (i : Nat) (n : Int) : Bool := if i = 0 then (decide (1 ≤ n) && decide (n ≤ 4611686018427387903)) else if i = 1 then (decide (1 ≤ n) && decide (n ≤ 4611686018427387902)) else (decide (0 ≤ n) && decide (n ≤ 4611686018427387903))
set_option maxHeartbeats 400000 in
theorem numberMayBe_any (i : Nat) (n : Int) (w : World) :
    Calls Tryz.prog 131 #[.int .i64 i, .int .i64 n] w fun e w' => e = .returned (.bool (numB i n)) ∧ w = w' := by
  by_cases h0 : i = 0
  · subst h0
    go_enter Tryz.func131, Tryz.ntmps131
    go_wp2_with (go_at_call 132; refine (rbetween_any _ _ _ _).mono ?_; rintro e w' ⟨rfl, rfl⟩)
    go_ret
    exact ⟨rfl, rfl⟩
  · by_cases h1 : i = 1
    · subst h1
      go_enter Tryz.func131, Tryz.ntmps131
      go_wp2_with (go_at_call 132; refine (rbetween_any _ _ _ _).mono ?_; rintro e w' ⟨rfl, rfl⟩)
      go_ret
      exact ⟨rfl, rfl⟩
    · have h0' : ¬ (i : Int) = 0 := by omega
      have h1' : ¬ (i : Int) = 1 := by omega
      have hn : numB i n = (decide (0 ≤ n) && decide (n ≤ 4611686018427387903)) := by unfold numB; rw [if_neg h0, if_neg h1]
      rw [hn]
      clear hn
      go_enter Tryz.func131, Tryz.ntmps131
      go_wp2_with (go_at_call 132; refine (rbetween_any _ _ _ _).mono ?_; rintro e w' ⟨rfl, rfl⟩)
      go_ret
      exact ⟨rfl, rfl⟩

/-- The kinds' fields. -/
def kiT : List Int := [0, 65, 64, 623, 131, 3, 635, 3, 131, 3, 3, 320, 107]
/-- The table of the kinds' fields lies where its initialiser laid it. -/
def Tab6 (w : World) : Prop := ∀ i : Nat, i < 13 → w.cell? ⟨4, i, none⟩ = some (.int .u16 (kiT.getD i 0))
theorem Tab6.below {w w' : World} {B : Nat} (h : Tab6 w) (hb : Below B w w') (hB : 4 < B) : Tab6 w' := fun i hi => (hb.cell (p := ⟨4, i, none⟩) hB).trans (h i hi)
theorem tab6_pos {w : World} (h : Tab6 w) : 4 < w.heap.size := World.block_lt_of_cell? w ⟨4, 0, none⟩ (h 0 (by omega))

abbrev nextV : Value := .agg #[.int .i64 2, .int .i64 0, .int .i64 0, .int .i64 0, .int .i64 0, .int .i64 0, .int .i64 0, .int .i64 300, .int .i64 0, .slice none 0 0, .slice none 0 0]
abbrev nextO : Obj := .cells #[.int .i64 2, .int .i64 0, .int .i64 0, .int .i64 0, .int .i64 0, .int .i64 0, .int .i64 0, .int .i64 300, .int .i64 0, .slice none 0 0, .slice none 0 0] 81
abbrev nextN : Value := .agg #[.int .i64 0, .int .i64 0, .int .i64 0, .int .i64 0, .int .i64 0, .int .i64 0, .int .i64 300, .int .i64 0]

theorem heap_new6 (w : World) (o : Obj) : (w.alloc o).heap[w.heap.size]? = some o := by
  have : (w.alloc o).heap = w.heap.push o := rfl
  rw [this]; simp
theorem next_cells {W : World} {g : Nat} (h : W.heap[g]? = some nextO) : W.cell? ⟨g, 0, none⟩ = some (.int .i64 2) ∧ W.cell? ⟨g, 1, none⟩ = some (.int .i64 0) ∧ W.cell? ⟨g, 2, none⟩ = some (.int .i64 0) ∧ W.cell? ⟨g, 3, none⟩ = some (.int .i64 0) ∧ W.cell? ⟨g, 4, none⟩ = some (.int .i64 0) ∧ W.cell? ⟨g, 5, none⟩ = some (.int .i64 0) ∧ W.cell? ⟨g, 6, none⟩ = some (.int .i64 0) ∧ W.cell? ⟨g, 7, none⟩ = some (.int .i64 300) ∧ W.cell? ⟨g, 8, none⟩ = some (.int .i64 0) ∧ W.cell? ⟨g, 9, none⟩ = some (.slice none 0 0) ∧ W.cell? ⟨g, 10, none⟩ = some (.slice none 0 0) :=
  ⟨cell_of_row _ _ 0 _ _ _ h, cell_of_row _ _ 1 _ _ _ h, cell_of_row _ _ 2 _ _ _ h, cell_of_row _ _ 3 _ _ _ h, cell_of_row _ _ 4 _ _ _ h, cell_of_row _ _ 5 _ _ _ h, cell_of_row _ _ 6 _ _ _ h, cell_of_row _ _ 7 _ _ _ h, cell_of_row _ _ 8 _ _ _ h, cell_of_row _ _ 9 _ _ _ h, cell_of_row _ _ 10 _ _ _ h⟩
theorem own_below6 {w w' : World} {base size n : Nat} {e : TypeId} {v : Value} {xs : List Value} (h : w.ownsRow base e size v n xs) (hg : Below w.heap.size w w') : w'.ownsRow base e size v n xs := by
  have hlt := h.lt
  obtain ⟨hl, h | ⟨g, cap, cur, rfl, hb, hh, r⟩⟩ := h
  · exact ⟨hl, .inl h⟩
  · refine ⟨hl, .inr ⟨g, cap, cur, rfl, hb, ?_, r⟩⟩
    rw [hg.block g (hlt g rfl).2]; exact hh

/-- What is no bytes stays as it is. -/
def Keeps8 (w w' : World) : Prop := ∀ (g : Nat) (cs : Array Value) (t : TypeId) (fr : Nat × Nat), w.heap[g]? = some (.cells cs t fr) → t ≠ 5 → w'.heap[g]? = some (.cells cs t fr)
theorem Keeps8.refl (w : World) : Keeps8 w w := fun _ _ _ _ h _ => h
theorem Keeps8.trans {w w' w'' : World} (h : Keeps8 w w') (h' : Keeps8 w' w'') : Keeps8 w w'' := fun g cs t fr hg ht => h' g cs t fr (h g cs t fr hg ht) ht
theorem Keeps8.below {w w' : World} (h : Below w.heap.size w w') : Keeps8 w w' := fun g _ _ _ hg _ => (h.block g (Array.getElem?_eq_some_iff.mp hg).1).trans hg
theorem Keeps8.grown {w w' : World} {base n : Nat} {v : Value} {xs : List Value} (ho : w.ownsRow base 5 1 v n xs) (hg : w.grownBy w' v.ownBlock) : Keeps8 w w' := fun g cs t fr hc ht => by
  refine (hg.block g (Array.getElem?_eq_some_iff.mp hc).1 ?_).trans hc
  intro e
  obtain ⟨_, ⟨rfl, _⟩ | ⟨g', cap, cur, rfl, _, hh, _⟩⟩ := ho
  · cases e
  · have e' : g = g' := by simpa [Value.ownBlock] using e
    subst e'
    rw [hh] at hc
    simp only [Option.some.injEq, Obj.cells.injEq] at hc
    exact ht hc.2.1.symm

set_option maxRecDepth 100000 in
set_option maxHeartbeats 1000000 in
theorem putNumber_any (v : Value) (m : Nat) (xs : List Value) (base : Nat) (n : Int) (w : World) (h0 : 0 ≤ n) (h1 : n ≤ 4611686018427387903)
    (hown : w.ownsRow base 5 1 v m xs) (hbase : base ≤ w.heap.size) (hm : m + 10 ≤ 140737488355328) :
    Calls Tryz.prog 123 #[v, .int .i64 n] w fun e w' => ∃ v', e = .returned v' ∧
      w'.ownsRow base 5 1 v' (m + sz n) (xs ++ (enc n).map (Value.int .u8)) ∧ Below base w w' ∧ Keeps8 w w' := by
  obtain ⟨i0, hi, hz0, hz1, hz2⟩ := info_parts Tryz.info_u8
  have hs := sz_bounds n h0 (by omega)
  have hwr : IntKind.u64.wrap n = n := by rw [IntKind.wrap_u64]; omega
  go_enter Tryz.func123, Tryz.ntmps123
  go_wp2_with (first
    | (go_at_call 135; refine (bytes_any n w h0 (by omega)).mono ?_; rintro e w1 ⟨g, cap, rfl, ho1, hb1⟩; have HO1 := own_below6 hown hb1; have HL := own_lies ho1; have hs1 := hb1.size)
    | (at_builtin; refine append_any _ rfl _ _ 35 rfl base 5 i0 (.int .u8 0) 1 Tryz.underlying35 hi hz0 hz1 hz2 rfl _ _ _ rfl HO1 .u8 _ _ _ (enc n) rfl (by intro h; cases h) HL.2 HL.1 (by unfold maxLen; omega) (by omega) (by omega) ?_; intro v2 w2 hown2 hg2))
  go_ret
  exact ⟨v2, rfl, hown2, own_grown (hb1.mono hbase) hg2 HO1 (by omega), (Keeps8.below hb1).trans (Keeps8.grown HO1 hg2)⟩

theorem own_base6 {w : World} {base base' size n : Nat} {e : TypeId} {v : Value} {xs : List Value} (h : w.ownsRow base e size v n xs) (hb : base' ≤ base) : w.ownsRow base' e size v n xs :=
  ⟨h.1, h.2.imp id fun ⟨g, cap, cur, h1, h2, h3⟩ => ⟨g, cap, cur, h1, Nat.le_trans hb h2, h3⟩⟩
/-- What stands in the row as the numbers are put there. -/
def FrmO (w : World) (base : Nat) (v : Value) (k : Nat) : Prop :=
  (k ≤ 6 ∧ w.ownsRow base 5 1 v 1 [.int .u8 2]) ∨ (6 < k ∧ w.ownsRow base 5 1 v 3 [.int .u8 2, .int .u8 130, .int .u8 44])
theorem FrmO.end {w : World} {base : Nat} {v : Value} (h : FrmO w base v 8) : w.ownsRow base 5 1 v 3 [.int .u8 2, .int .u8 130, .int .u8 44] := by
  rcases h with h | h
  · omega
  · exact h.2
theorem FrmO.next {w : World} {base k : Nat} {v : Value} (h : FrmO w base v k) (hk : k ≠ 6) : FrmO w base v (k + 1) := by
  rcases h with h | h
  · exact .inl ⟨by omega, h.2⟩
  · exact .inr ⟨by omega, h.2⟩
end Go.Proofs.YtllhbhogfffedaaGreatDoor
