import Derived.Test.YthbkabehjeidjabDoorFields
import Derived.Test.YthbkabehjeidjabDoorSmG
import Derived.Test.YthbkabehjeidjabDoorRpO
import Derived.Test.YthbkabehjeidjabDoorAll
import Derived.Lib.SliceRun
import Derived.Deep.RegionWith
import Derived.Deep.RegionHeld3
import Derived.Laws.EntriesVeiled
import Derived.Deep.LoopGhost
namespace Go.Proofs.YthbkabehjeidjabDoor
open Go.RowKit
set_option linter.unusedVariables false
set_option linter.unusedSimpArgs false

theorem al_old {w : World} {o x : Obj} {j : Nat} (h : w.heap[j]? = some x) : (w.alloc o).heap[j]? = some x := (((Below.refl w.heap.size w).alloc (Nat.le_refl _) o).block j (Array.getElem?_eq_some_iff.1 h).1).trans h
theorem al_new (w : World) (o : Obj) : (w.alloc o).heap[w.heap.size]? = some o := heap_alloc_new' w o
theorem add_n5 (g off j : Nat) : (⟨g, off, none⟩ : Addr).add j = ⟨g, off + j, none⟩ := by unfold Addr.add; split <;> simp_all
theorem own_low5 {w : World} {base base' size n : Nat} {e : TypeId} {v : Value} {xs : List Value} (h : w.ownsRow base e size v n xs) (hb : base' ≤ base) : w.ownsRow base' e size v n xs := by
  obtain ⟨hl, h | ⟨g, cap, cur, rfl, hb', r⟩⟩ := h
  · exact ⟨hl, .inl h⟩
  · exact ⟨hl, .inr ⟨g, cap, cur, rfl, Nat.le_trans hb hb', r⟩⟩
theorem own_sl5 {w : World} {base size n : Nat} {e : TypeId} {v : Value} {xs : List Value} (h : w.ownsRow base e size v n xs) : ∃ a c, v = .slice a n c := by
  obtain ⟨_, ⟨rfl, rfl⟩ | ⟨g, cap, cur, rfl, _⟩⟩ := h
  · exact ⟨none, 0, rfl⟩
  · exact ⟨_, cap, rfl⟩
theorem sz62r {n : Int} (h0 : 0 ≤ n) (h1 : n ≤ 4611686018427387903) : 1 ≤ sz n ∧ sz n ≤ 9 := by
  have h := sz_bounds n h0 (by omega)
  have m := sz_mono n 4611686018427387903 h0 h1 (by omega)
  have : sz 4611686018427387903 = 9 := by decide +kernel
  omega
set_option maxHeartbeats 2000000 in
theorem rqScope_any (lo up : Int) (w : World) : Calls Tryd.prog 52 #[.int .i64 lo, .int .i64 up] w fun e w' => e = .returned (.bool (decide (0 ≤ lo ∧ lo < up ∧ up ≤ 65536))) ∧ w = w' := by
  obtain ⟨B, hB⟩ : ∃ b, decide (0 ≤ lo ∧ lo < up ∧ up ≤ 65536) = b := ⟨_, rfl⟩
  have HB : Hid (decide (0 ≤ lo ∧ lo < up ∧ up ≤ 65536) = B) := hB
  rw [hB]
  clear hB
  have hcs : (¬ 0 ≤ lo) ∨ (0 ≤ lo ∧ ¬ lo < up) ∨ (0 ≤ lo ∧ lo < up ∧ ¬ up ≤ 65536) ∨ (0 ≤ lo ∧ lo < up ∧ up ≤ 65536) := by omega
  rcases hcs with h1 | ⟨h1, h2⟩ | ⟨h1, h2, h3⟩ | ⟨h1, h2, h3⟩
  · have HV : Hid (B = false) := HB.out.symm.trans (decide_eq_false (by omega))
    clear HB
    go_enter Tryd.func52, Tryd.ntmps52
    go_wp2
    go_ret
    exact ⟨congrArg (fun b => Ending.returned (Value.bool b)) HV.out.symm, rfl⟩
  · have HV : Hid (B = false) := HB.out.symm.trans (decide_eq_false (by omega))
    clear HB
    go_enter Tryd.func52, Tryd.ntmps52
    go_wp2
    go_ret
    exact ⟨congrArg (fun b => Ending.returned (Value.bool b)) HV.out.symm, rfl⟩
  · have HV : Hid (B = false) := HB.out.symm.trans (decide_eq_false (by omega))
    clear HB
    go_enter Tryd.func52, Tryd.ntmps52
    go_wp2
    go_ret
    exact ⟨congrArg (fun b => Ending.returned (Value.bool b)) HV.out.symm, rfl⟩
  · have HV : Hid (B = true) := HB.out.symm.trans (decide_eq_true (by omega))
    clear HB
    go_enter Tryd.func52, Tryd.ntmps52
    go_wp2
    go_ret
    exact ⟨congrArg (fun b => Ending.returned (Value.bool b)) HV.out.symm, rfl⟩
set_option maxHeartbeats 4000000 in
theorem rqSession_any (o n : Int) (w : World) : Calls Tryd.prog 47 #[.agg #[.int .i64 o, .int .i64 n]] w fun e w' => e = .returned (.bool (decide ((1 ≤ o ∧ o ≤ 4611686018427387903) ∧ (1 ≤ n ∧ n ≤ 4611686018427387902)))) ∧ Below w.heap.size w w' := by
  have HB0 : Hid (Below w.heap.size w (w.alloc (.cells #[.int .i64 o, .int .i64 n] 23))) := (Below.refl _ _).alloc (Nat.le_refl _) _
  obtain ⟨B, hB⟩ : ∃ b, decide ((1 ≤ o ∧ o ≤ 4611686018427387903) ∧ (1 ≤ n ∧ n ≤ 4611686018427387902)) = b := ⟨_, rfl⟩
  have HB : Hid (decide ((1 ≤ o ∧ o ≤ 4611686018427387903) ∧ (1 ≤ n ∧ n ≤ 4611686018427387902)) = B) := hB
  rw [hB]
  clear hB
  have hcs : (¬ 1 ≤ o) ∨ (1 ≤ o ∧ ¬ o ≤ 4611686018427387903) ∨ (1 ≤ o ∧ o ≤ 4611686018427387903 ∧ ¬ 1 ≤ n) ∨ (1 ≤ o ∧ o ≤ 4611686018427387903 ∧ 1 ≤ n ∧ ¬ n ≤ 4611686018427387902) ∨ (1 ≤ o ∧ o ≤ 4611686018427387903 ∧ 1 ≤ n ∧ n ≤ 4611686018427387902) := by omega
  rcases hcs with h1 | ⟨h1, h2⟩ | ⟨h1, h2, h3⟩ | ⟨h1, h2, h3, h4⟩ | ⟨h1, h2, h3, h4⟩
  · have HV : Hid (B = false) := HB.out.symm.trans (decide_eq_false (by omega))
    clear HB
    go_enter Tryd.func47, Tryd.ntmps47
    go_wp2
    go_ret
    exact ⟨congrArg (fun b => Ending.returned (Value.bool b)) HV.out.symm, HB0.out⟩
  · have HV : Hid (B = false) := HB.out.symm.trans (decide_eq_false (by omega))
    clear HB
    go_enter Tryd.func47, Tryd.ntmps47
    go_wp2
    go_ret
    exact ⟨congrArg (fun b => Ending.returned (Value.bool b)) HV.out.symm, HB0.out⟩
  · have HV : Hid (B = false) := HB.out.symm.trans (decide_eq_false (by omega))
    clear HB
    go_enter Tryd.func47, Tryd.ntmps47
    go_wp2
    go_ret
    exact ⟨congrArg (fun b => Ending.returned (Value.bool b)) HV.out.symm, HB0.out⟩
  · have HV : Hid (B = false) := HB.out.symm.trans (decide_eq_false (by omega))
    clear HB
    go_enter Tryd.func47, Tryd.ntmps47
    go_wp2
    go_ret
    exact ⟨congrArg (fun b => Ending.returned (Value.bool b)) HV.out.symm, HB0.out⟩
  · have HV : Hid (B = true) := HB.out.symm.trans (decide_eq_true (by omega))
    clear HB
    go_enter Tryd.func47, Tryd.ntmps47
    go_wp2
    go_ret
    exact ⟨congrArg (fun b => Ending.returned (Value.bool b)) HV.out.symm, HB0.out⟩
theorem rqNumber_ok (n : Int) (w : World) (h0 : 0 ≤ n) (h1 : n ≤ 4611686018427387903) : Calls Tryd.prog 51 #[.int .i64 n] w fun e w' => e = .returned (.bool true) ∧ w = w' := by
  go_enter Tryd.func51, Tryd.ntmps51
  go_wp2
  go_ret
  exact ⟨rfl, rfl⟩
theorem rqKnown_8 (w : World) : Calls Tryd.prog 22 #[.int .i64 8] w fun e w' => e = .returned (.bool true) ∧ w = w' := by
  go_enter Tryd.func22, Tryd.ntmps22
  go_wp2
  go_ret
  exact ⟨rfl, rfl⟩
theorem rqData_8 (w : World) : Calls Tryd.prog 49 #[.int .i64 8] w fun e w' => e = .returned (.bool false) ∧ w = w' := by
  go_enter Tryd.func49, Tryd.ntmps49
  go_wp2
  go_ret
  exact ⟨rfl, rfl⟩
theorem rqCheck_8 (w : World) : Calls Tryd.prog 50 #[.int .i64 8] w fun e w' => e = .returned (.bool false) ∧ w = w' := by
  go_enter Tryd.func50, Tryd.ntmps50
  go_wp2
  go_ret
  exact ⟨rfl, rfl⟩
theorem rqExts_nil (w : World) : Calls Tryd.prog 48 #[.slice none 0 0] w fun e w' => e = .returned (.bool true) ∧ w = w' := by
  go_enter Tryd.func48, Tryd.ntmps48
  go_wp2
  go_loopw [3] (fun i wr => i = .int .i64 0 ∧ wr = w) (fun _ _ => 0)
  case atStart => exact ⟨rfl, rfl⟩
  case round =>
    obtain ⟨rfl, rfl⟩ := hrel
    go_wp2
    go_ret
    exact ⟨rfl, rfl⟩
theorem rqLay_nil (v : Value) (a : Option Addr) (m c : Nat) (hv : v = .slice a m c) (w : World) : Calls Tryd.prog 55 #[v, .slice none 0 0] w fun e w' => e = .returned v ∧ w = w' := by
  subst hv
  go_enter Tryd.func55, Tryd.ntmps55
  go_wp2
  go_loopw [0, 5] (fun b i wr => b = .slice a m c ∧ i = .int .i64 0 ∧ wr = w) (fun _ _ _ => 0)
  case atStart => exact ⟨rfl, rfl, rfl⟩
  case round =>
    obtain ⟨rfl, rfl, rfl⟩ := hrel
    go_wp2
    go_ret
    exact ⟨rfl, rfl⟩

theorem grown_two {w w1 w2 : World} {row : Option Nat} (h : Below w.heap.size w w1) (hg : w1.grownBy w2 row) : w.grownBy w2 row := ⟨hg.os.trans h.os, hg.tape.trans h.tape, hg.output.trans h.output, Nat.le_trans h.size hg.size, fun k hk hn => (hg.block k (Nat.lt_of_lt_of_le hk h.size) hn).trans (h.block k hk)⟩
set_option maxHeartbeats 4000000 in
/-- A number behind bytes. -/
theorem rqNum_any (v : Value) (m : Nat) (xs : List Value) (base : Nat) (n : Int) (w : World) (h0 : 0 ≤ n) (h1 : n ≤ 4611686018427387903) (hown : w.ownsRow base 5 1 v m xs) (hbase : base ≤ w.heap.size) (hm : m ≤ 10000000) :
    Calls Tryd.prog 54 #[v, .int .i64 n] w (XPost v base m xs (enc n) w) := by
  obtain ⟨i0, hi, hz0, hz1, hz2⟩ := info_parts Tryd.info_u8
  obtain ⟨a, c, rfl⟩ := own_sl5 hown
  have hB := R.refbytes_any n w h0 (by omega)
  have HO : Hid (w.ownsRow base 5 1 (.slice a m c) m xs) := hown
  have hwu : IntKind.u64.wrap n = n := by unfold IntKind.wrap; simp [IntKind.signed, IntKind.bits]; omega
  have hsz := sz62r h0 h1
  have hel : (enc n).length = sz n := enc_length n h0 (by omega)
  have HEL : Hid ((enc n).length = sz n) := hel
  clear hown hel
  go_enter Tryd.func54, Tryd.ntmps54
  go_wp2_with fail
  refine hB.mono ?_
  rintro e w1 ⟨g, cap, rfl, hown1, hb1⟩
  have HO1 : Hid (w1.ownsRow base 5 1 (.slice a m c) m xs) := C.own_blk2 HO.out (fun g hg => hb1.block g (World.ownsRow.lt HO.out g hg).2)
  have HL1 : Hid (∀ j u, ((enc n).map (Value.int .u8))[j]? = some u → w1.cell? ((⟨g, 0, none⟩ : Addr).add j) = some u) := fun j u hj => by
    have hjl := (List.getElem?_eq_some_iff.mp hj).1
    rw [List.length_map, HEL.out] at hjl
    rw [add_n5, Nat.zero_add, hown1.cellAt _ (by omega)]
    exact hj
  have HB1 : Hid (Below w.heap.size w w1) := hb1
  have hzb := hb1.size
  clear hB hown1 hb1 HO
  go_wp2_with (at_builtin; refine wpList_append_own_at _ rfl _ _ 25 rfl base 5 i0 (.int .u8 0) 1 1 Tryd.underlying25 hi hz0 hz1 hz2 rfl (by decide) _ _ _ rfl HO1.out ⟨g, 0, none⟩ (sz n) cap ((enc n).map (Value.int .u8)) rfl (by rw [List.length_map, HEL.out]; omega) HL1.out ?c2 (by unfold maxLen; omega) (by omega) (by omega) ?_)
  case c2 => intro u hu; obtain ⟨z, _, rfl⟩ := List.mem_map.mp hu; rfl
  intro v6 w6 o6 g6 _ t6
  have HF : Hid (XPost (.slice a m c) base m xs (enc n) w (.returned v6) w6) := ⟨v6, rfl, by rw [HEL.out]; exact o6, ⟨grown_two HB1.out g6, fun j hj => by
    rcases t6 with q | q
    · left; exact q.symm.trans hj
    · right; rw [q] at hj; cases hj; exact hzb⟩⟩
  obtain ⟨a6, c6, rfl⟩ := own_sl5 o6
  clear o6 g6 t6
  go_wp2
  go_ret
  exact HF.out

theorem clOk_at : ∀ {l : List (Int × Int)} {up lo : Int}, clOk up lo l = true → ∀ (i : Nat) (p : Int × Int), l[i]? = some p → lo ≤ p.1 ∧ p.1 < p.2 ∧ p.2 ≤ up ∧ ∀ (q : Int × Int), l[i - 1]? = some q → 0 < i → q.2 < p.1
  | [], up, lo, h, i, p, hp => by simp at hp
  | x :: r, up, lo, h, 0, p, hp => by
    simp only [clOk, Bool.and_eq_true, decide_eq_true_eq] at h
    simp at hp
    subst hp
    exact ⟨h.1, h.2.1, h.2.2.1, fun q _ h0 => by omega⟩
  | x :: r, up, lo, h, i + 1, p, hp => by
    simp only [clOk, Bool.and_eq_true, decide_eq_true_eq] at h
    obtain ⟨h1, h2, h3, h4⟩ := clOk_at h.2.2.2 i p (by simpa using hp)
    refine ⟨by omega, h2, h3, fun q hq _ => ?_⟩
    cases i with
    | zero => simp at hq; subst hq; omega
    | succ j => exact h4 q (by simpa using hq) (by omega)

/-- Bytes that grow: the row, and what came in stays. -/
structure Ly (w wr : World) (v : Value) (m : Nat) (bs : List Int) : Prop where
  len : bs.length = m
  own : wr.ownsRow w.heap.size 5 1 v m (bs.map (Value.int .u8))
  bel : Below w.heap.size w wr
theorem enc9 {n : Int} (h0 : 0 ≤ n) (h1 : n ≤ 4611686018427387903) : (enc n).length ≤ 9 := by rw [enc_length n h0 (by omega)]; exact (sz62r h0 h1).2
theorem Ly.num {w wr w' : World} {v : Value} {m : Nat} {bs : List Int} {n : Int} {e : Ending} (h : Ly w wr v m bs) (h0 : 0 ≤ n) (h1 : n ≤ 4611686018427387903) (hx : XPost v w.heap.size m (bs.map (Value.int .u8)) (enc n) wr e w') : ∃ a m' c, e = .returned (.slice a m' c) ∧ m' ≤ m + 9 ∧ Ly w w' (.slice a m' c) m' (bs ++ enc n) := by
  obtain ⟨v', rfl, ho, hg⟩ := hx
  have hk : ∀ g, g < w.heap.size → w'.heap[g]? = wr.heap[g]? := fun g hgl => hg.grown.block g (Nat.lt_of_lt_of_le hgl h.bel.size) (fun e => by have := (h.own.lt g e.symm).1; omega)
  obtain ⟨a, c, rfl⟩ := own_sl5 ho
  have := enc9 h0 h1
  exact ⟨a, _, c, rfl, by omega, by rw [List.length_append, h.len], by rw [List.map_append]; exact ho, ⟨hg.grown.os.trans h.bel.os, hg.grown.tape.trans h.bel.tape, hg.grown.output.trans h.bel.output, Nat.le_trans h.bel.size hg.grown.size, fun g hgl => (hk g hgl).trans (h.bel.block g hgl)⟩⟩
theorem Ly.same {w wr w' : World} {v : Value} {m : Nat} {bs : List Int} (h : Ly w wr v m bs) (hb : Below wr.heap.size wr w') : Ly w w' v m bs := ⟨h.len, C.own_blk2 h.own (fun g hg => hb.block g (h.own.lt g hg).2), h.bel.trans (hb.mono h.bel.size)⟩
theorem Ly.calls {w wr : World} {v : Value} {m : Nat} {bs : List Int} (h : Ly w wr v m bs) (n : Int) (h0 : 0 ≤ n) (h1 : n ≤ 4611686018427387903) (hm : m ≤ 10000000) : Calls Tryd.prog 54 #[v, .int .i64 n] wr fun e w' => ∃ a m' c, e = .returned (.slice a m' c) ∧ m' ≤ m + 9 ∧ Ly w w' (.slice a m' c) m' (bs ++ enc n) :=
  (rqNum_any v m _ _ n wr h0 h1 h.own h.bel.size hm).mono fun _ _ hx => h.num h0 h1 hx
theorem clmB_step (lo : Int) (l : List (Int × Int)) (j : Nat) (p : Int × Int) (h : l[j]? = some p) : clmB lo (l.take (j + 1)) = clmB lo (l.take j) ++ enc (p.1 - lo) ++ enc (p.2 - p.1) := by
  unfold clmB
  rw [List.take_add_one, h, List.flatMap_append]
  simp [jn]

theorem Ly.byte {w wr w' : World} {v v' : Value} {m : Nat} {bs : List Int} {b : Int} {o : Obj} (h : Ly w wr v m bs) (ho : w'.ownsRow w.heap.size 5 1 v' (m + 1) (bs.map (Value.int .u8) ++ [.int .u8 b])) (hg : (wr.alloc o).grownBy w' v.ownBlock) : ∃ a m' c, v' = .slice a m' c ∧ m' ≤ m + 1 ∧ Ly w w' (.slice a m' c) m' (bs ++ [b]) := by
  have hk : ∀ g, g < w.heap.size → w'.heap[g]? = wr.heap[g]? := fun g hgl => (hg.block g (by have := h.bel.size; simp; omega) (fun e => by have := (h.own.lt g e.symm).1; omega)).trans (((Below.refl wr.heap.size wr).alloc (Nat.le_refl _) o).block g (by have := h.bel.size; omega))
  obtain ⟨a, c, rfl⟩ := own_sl5 ho
  exact ⟨a, _, c, rfl, Nat.le_refl _, by rw [List.length_append, h.len]; rfl, by rw [List.map_append]; exact ho, ⟨hg.os.trans h.bel.os, hg.tape.trans h.bel.tape, hg.output.trans h.bel.output, Nat.le_trans h.bel.size (Nat.le_trans (by simp) hg.size), fun g hgl => (hk g hgl).trans (h.bel.block g hgl)⟩⟩
theorem one_lit (W : World) : ∀ j u, [Value.int .u8 0][j]? = some u → (W.alloc (.cells #[.int .u8 0] 5)).cell? ((⟨W.heap.size, 0, none⟩ : Addr).add j) = some u := by
  intro j u hj
  rw [add_n5, Nat.zero_add, cell_of_row _ W.heap.size j _ _ _ (al_new W _), ← hj, ← Array.getElem?_toList]


end Go.Proofs.YthbkabehjeidjabDoor
