import Derived.Test.YtkkmoplijicmpabDoorSmG
import Derived.Test.YtkkmoplijicmpabDoorRpO
import Derived.Deep.RegionHeld3
import Derived.BigQuiet
namespace Go.Proofs.YtkkmoplijicmpabDoor
open Go.RowKit
set_option linter.unusedVariables false
set_option linter.unusedSimpArgs false

theorem q2size_u8 : (Tryd.prog.info? 5).map (·.size) = some 1 := by kernel_rfl
theorem q2made (n : Nat) : (madeCells (Value.cells (.int .u8 0)) (n * 1)).toList = (List.replicate n (0 : Int)).map (Value.int .u8) := by
  simp [madeCells, Value.cells, Nat.mod_one, List.map_const']
theorem q2full {w : World} {base n g : Nat} {e : TypeId} {xs : List Value} (h : w.ownsRow base e 1 (.slice (some ⟨g, 0, none⟩) n n) n xs) : w.heap[g]? = some (.cells xs.toArray e (0, 0)) := by
  obtain ⟨_, ⟨hv, _⟩ | ⟨g', cap, cur, hv, _, hg, _, _, hs, ht⟩⟩ := h
  · cases hv
  · simp only [Value.slice.injEq, Option.some.injEq, Addr.mk.injEq, and_true, true_and] at hv
    obtain ⟨rfl, rfl⟩ := hv
    rw [List.take_of_length_le (by simp; omega)] at ht
    rw [hg, ← ht]
theorem q2splice (zs : List Int) (n : Nat) (hl : zs.length = n) : splice ((List.replicate (n + 2) (0 : Int)).map (Value.int .u8)) 0 (zs.map (Value.int .u8)) = (zs ++ [0, 0]).map (Value.int .u8) := by
  subst hl
  simp [splice, show zs.length + 2 - zs.length = 2 from by omega]
theorem q2set1 {α : Type} (zs : List α) (n : Nat) (hl : zs.length = n) (a b c : α) : (zs ++ [a, b]).set n c = zs ++ [c, b] := by
  rw [List.set_append_right _ _ (by omega), hl, Nat.sub_self]; rfl
theorem q2set2 {α : Type} (zs : List α) (n : Nat) (hl : zs.length = n) (a b c : α) : (zs ++ [a, b]).set (n + 1) c = zs ++ [a, c] := by
  rw [List.set_append_right _ _ (by omega), hl, show n + 1 - n = 1 by omega]; rfl
theorem q2get1 {α : Type} (zs : List α) (n : Nat) (hl : zs.length = n) (a b : α) : (zs ++ [a, b])[n]? = some a := by
  rw [List.getElem?_append_right (by omega), hl, Nat.sub_self]; rfl
theorem q2get2 {α : Type} (zs : List α) (n : Nat) (hl : zs.length = n) (a b : α) : (zs ++ [a, b])[n + 1]? = some b := by
  rw [List.getElem?_append_right (by omega), hl, show n + 1 - n = 1 by omega]; rfl
theorem Lies.cells2 {W : World} {a : Option Addr} {zs : List Int} (h : Lies .u8 W a zs) (hp : 0 < (zs.map (Value.int .u8)).length) : ∃ ad, a = some ad ∧ ∀ j v, (zs.map (Value.int .u8))[j]? = some v → W.cell? (ad.add j) = some v := by
  rcases h with rfl | ⟨b, off, rfl, h⟩
  · simp at hp
  · refine ⟨_, rfl, fun j v hj => ?_⟩
    have hjl : j < zs.length := by
      rcases Nat.lt_or_ge j zs.length with q | q
      · exact q
      · rw [List.getElem?_eq_none (by simpa using q)] at hj; cases hj
    rw [List.getElem?_map, List.getElem?_eq_getElem hjl] at hj
    simp only [Option.map_some, Option.some.injEq] at hj
    rw [show (⟨b, off, none⟩ : Addr).add j = ⟨b, off + j, none⟩ from by unfold Addr.add; split <;> simp_all, h j hjl, ← hj]
    simp [List.getD_eq_getElem?_getD, List.getElem?_eq_getElem hjl]

/-- Bytes that were lent: two marks behind them. -/
def mk2 (zs : List Int) : List Int := zs ++ [171, 172]
theorem mk2_len (zs : List Int) : (mk2 zs).length = zs.length + 2 := by simp [mk2]
theorem mk2_take (zs : List Int) : (mk2 zs).take zs.length = zs := by simp [mk2]

set_option maxRecDepth 100000 in
set_option maxHeartbeats 4000000 in
/-- LentBytes of any bytes. -/
theorem lentBytes_any {v : Value} {zs : List Int} {w : World} (h : BIn w v zs) :
    Calls Tryd.prog 16 #[v] w fun e w' => e = .returned (.slice (some ⟨w.heap.size, 0, none⟩) zs.length (zs.length + 2)) ∧ Blk .u8 w' w.heap.size 5 (mk2 zs) ∧ Below w.heap.size w w' := by
  obtain ⟨i0, hi, hz0, hz1, hz2⟩ := info_parts Tryd.info_u8
  have hm := h.small
  obtain ⟨a, c, rfl, hl, _⟩ := h.shape
  obtain ⟨n, hn⟩ : ∃ n, zs.length = n := ⟨_, rfl⟩
  have HN : Hid (zs.length = n) := hn
  rw [hn] at hm ⊢
  have HL : Hid (∀ X, Below w.heap.size w X → Lies .u8 X a zs) := fun X hX => hl.below hX
  have hw1 : IntKind.i64.wrap ((n : Int) + 2) = (n : Int) + 2 := by rw [IntKind.wrap_i64]; omega
  have hw2 : IntKind.i64.wrap ((n : Int) + 1) = (n : Int) + 1 := by rw [IntKind.wrap_i64]; omega
  clear h hl hn
  go_enter Tryd.func16, Tryd.ntmps16
  go_upto_region 3 with (first
    | (at_make; refine wpList_make_full _ rfl _ _ 25 rfl w.heap.size 5 i0 (.int .u8 0) 1 Tryd.underlying25 hi hz0 hz1 .i64 .i64 _ _ (n + 2) rfl rfl (by simp) (by simp) (by rw [hz2]; omega) (by unfold maxLen; omega) (Nat.le_refl _) ?_
       intro w1 hown1 hgrow1
       have HB1 : Hid (Below w.heap.size w w1) := (Below.refl _ _).grown hgrow1 (Nat.le_refl _) (by intro j hj; cases hj)
       have HG1 : Hid (w1.heap[w.heap.size]? = some (.cells ((List.replicate (n + 2) (0 : Int)).map (Value.int .u8)).toArray 5 (0, 0))) := (by rw [q2made] at hown1; exact q2full hown1)
       clear hown1 hgrow1)
    | (refine wpList_copy_splice rfl (.tmp 8) (.tmp 9) 25 25 rfl 5 Tryd.underlying25 q2size_u8 _ _ _ _ _ _ rfl rfl w.heap.size 0 _ 5 HG1.out (zs.map (Value.int .u8)) (by have := HN.out; simp; omega) (fun hp => ⟨rfl, (HL.out w1 HB1.out).cells2 hp⟩) (by have := HN.out; simp; omega) (by intro v hv; simp at hv; obtain ⟨x, _, rfl⟩ := hv; rfl) w.heap.size w HB1.out (Nat.le_refl _) ?_
       intro w2 HG2 hb2
       have HB2 : Hid (Below w.heap.size w w2) := hb2
       clear hb2)
    | go_in)
  have hblk : Blk .u8 w2 w.heap.size 5 (zs ++ [0, 0]) := by
    have := HG2.out; rw [q2splice zs n HN.out] at this; exact this
  have k1 := hblk.cell n (by have := HN.out; simp; omega)
  have k2 := hblk.frozen n
  have b3 := hblk.set n 171
  rw [q2set1 _ _ HN.out] at b3
  have k3 := b3.cell (n + 1) (by have := HN.out; simp; omega)
  have k4 := b3.frozen (n + 1)
  have b4 := b3.set (n + 1) 172
  rw [q2set2 _ _ HN.out] at b4
  have HB4 : Hid (Below w.heap.size w ((w2.setCell ⟨w.heap.size, n, none⟩ (.int .u8 171)).setCell ⟨w.heap.size, n + 1, none⟩ (.int .u8 172))) := (HB2.out.setCell (p := ⟨w.heap.size, n, none⟩) (Nat.le_refl _) _).setCell (p := ⟨w.heap.size, n + 1, none⟩) (Nat.le_refl _) _
  have HBK : Hid (Blk .u8 ((w2.setCell ⟨w.heap.size, n, none⟩ (.int .u8 171)).setCell ⟨w.heap.size, n + 1, none⟩ (.int .u8 172)) w.heap.size 5 (mk2 zs)) := b4
  have e1 : (zs ++ [0, 0]).getD n 0 = 0 := by rw [List.getD_eq_getElem?_getD, q2get1 _ _ HN.out]; rfl
  have e2 : (zs ++ [171, 0]).getD (n + 1) 0 = 0 := by rw [List.getD_eq_getElem?_getD, q2get2 _ _ HN.out]; rfl
  rw [e1] at k1
  rw [e2] at k3
  have hl1 : (n : Int) < (n : Int) + 2 := by omega
  have hl2 : (n : Int) + 1 < (n : Int) + 2 := by omega
  clear hblk b3 b4 e1 e2 HG1 HG2 HB1 HB2
  go_wp2
  go_ret
  exact ⟨rfl, HBK.out, HB4.out⟩

theorem Blk.bin2 {w : World} {g : Nat} {zs : List Int} (h : Blk .u8 w g 5 (mk2 zs)) (hb : Bytey zs) (hs : zs.length ≤ 1048576) : BIn w (.slice (some ⟨g, 0, none⟩) zs.length (zs.length + 2)) zs := by
  refine ⟨⟨_, _, rfl, ?_, (fun h => by cases h), by omega, by omega⟩, hb, hs⟩
  have := h.lies zs.length
  rwa [mk2_take] at this

set_option maxRecDepth 100000 in
set_option maxHeartbeats 4000000 in
/-- KeptBytes of bytes that are as they were. -/
theorem keptBytes_any {v : Value} {zs : List Int} {w : World} {g : Nat} (h : BIn w v zs) (hg : Blk .u8 w g 5 (mk2 zs)) :
    Calls Tryd.prog 18 #[.slice (some ⟨g, 0, none⟩) zs.length (zs.length + 2), v] w fun e w' => e = .returned (.bool true) ∧ Below w.heap.size w w' := by
  have hm := h.small
  have hl2 : Lies .u8 w (some ⟨g, 0, none⟩) zs := by have := hg.lies zs.length; rwa [mk2_take] at this
  obtain ⟨a, c, rfl, hl, _⟩ := h.shape
  have k1 := hg.cell zs.length (by rw [mk2_len]; omega)
  have k2 := hg.cell (zs.length + 1) (by rw [mk2_len]; omega)
  rw [List.getD_eq_getElem?_getD, mk2, q2get1 _ _ rfl] at k1
  rw [List.getD_eq_getElem?_getD, mk2, q2get2 _ _ rfl] at k2
  simp only [Option.getD_some] at k1 k2
  obtain ⟨n, hn⟩ : ∃ n, zs.length = n := ⟨_, rfl⟩
  rw [hn] at hm k1 k2 ⊢
  have c1 : ∀ nd cc, (convert 25 9 (.slice (some ⟨g, 0, none⟩) n cc)).run Tryd.prog (w.drewN nd) = .ok (.string (strOfNums zs)) (w.drewN nd) := fun nd cc => conv_any _ _ _ _ _ hn (hl2.drewN nd)
  have c2 : ∀ nd, (convert 25 9 (.slice a n c)).run Tryd.prog (w.drewN nd) = .ok (.string (strOfNums zs)) (w.drewN nd) := fun nd => conv_any _ _ _ _ _ hn (hl.drewN nd)
  have c3 : ∀ cc, (convert 25 9 (.slice (some ⟨g, 0, none⟩) n cc)).run Tryd.prog w = .ok (.string (strOfNums zs)) w := fun cc => conv_any _ _ _ _ _ hn hl2
  have c4 : (convert 25 9 (.slice a n c)).run Tryd.prog w = .ok (.string (strOfNums zs)) w := conv_any _ _ _ _ _ hn hl
  generalize strOfNums zs = S at *
  have e1 : (S.toList == S.toList) = true := by simp
  have hw1 : IntKind.i64.wrap ((n : Int) + 2) = (n : Int) + 2 := by rw [IntKind.wrap_i64]; omega
  have hw2 : IntKind.i64.wrap ((n : Int) + 1) = (n : Int) + 1 := by rw [IntKind.wrap_i64]; omega
  have hl1 : (n : Int) < (n : Int) + 2 := by omega
  have hl2 : (n : Int) + 1 < (n : Int) + 2 := by omega
  have hl3 : (n : Int) ≤ (n : Int) + 2 := by omega
  clear h hg hl hn
  go_enter Tryd.func18, Tryd.ntmps18
  go_wp2_with fail
  go_quiet (fail)
  go_wp2
  go_ret
  exact ⟨rfl, below_drewN' (Below.refl _ _) _⟩

end Go.Proofs.YtkkmoplijicmpabDoor
