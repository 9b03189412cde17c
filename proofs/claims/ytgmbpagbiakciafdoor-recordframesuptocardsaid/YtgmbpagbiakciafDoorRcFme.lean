import Derived.Test.YtgmbpagbiakciafDoorRcWrd
import Derived.Test.YtgmbpagbiakciafDoorRcSby
import Derived.Test.YtgmbpagbiakciafDoorRcApp
import Derived.Test.YtgmbpagbiakciafDoorRcPrf
import Derived.Maps.AppendAt
import Derived.Test.YtgmbpagbiakciafDoorRcOwn
import Derived.Test.YtgmbpagbiakciafDoorRcKpt
namespace Go.Proofs.YtgmbpagbiakciafDoor
open Go.RowKit
set_option linter.unusedVariables false
set_option linter.unusedSimpArgs false

/-- What Frame answers. -/
def fmR (l : List Rc) : List Int × Int := if l.all mayB6 then (l.flatMap frB, 0) else ([], 60)
theorem fmR_ok {l : List Rc} (h : ∀ r ∈ l, mayB6 r = true) : fmR l = (l.flatMap frB, 0) := by unfold fmR; rw [if_pos (List.all_eq_true.mpr h)]
theorem fmR_no {l : List Rc} {r : Rc} (hr : r ∈ l) (h : mayB6 r = false) : fmR l = ([], 60) := by
  unfold fmR
  rw [if_neg]
  intro q
  have := List.all_eq_true.mp q r hr
  rw [h] at this
  cases this
theorem fr_len : ∀ {l : List Rc}, (∀ r ∈ l, mayB6 r = true) → (l.flatMap frB).length ≤ 80008 * l.length
  | [], _ => by simp
  | r :: l, h => by
    have h1 := fr_len (l := l) (fun q hq => h q (List.mem_cons_of_mem _ hq))
    have h2 := prB_len (h r (List.mem_cons_self ..))
    have h3 := frB_len r
    rw [List.flatMap_cons, List.length_append, List.length_cons]
    omega
theorem takeOk6 {l : List Rc} {k : Nat} {r : Rc} (h : ∀ q ∈ l.take k, mayB6 q = true) (hr : l[k]? = some r) (hm : mayB6 r = true) : ∀ q ∈ l.take (k + 1), mayB6 q = true := by
  intro q hq
  have hk := (List.getElem?_eq_some_iff.mp hr).1
  rw [List.take_succ_eq_append_getElem hk, List.mem_append] at hq
  rcases hq with hq | hq
  · exact h q hq
  · simp at hq
    rw [hq, (List.getElem?_eq_some_iff.mp hr).2]
    exact hm

set_option maxRecDepth 100000 in
set_option maxHeartbeats 4000000 in
theorem frame_any (l : List Rc) (a : Option Addr) (n c : Nat) (w : World) (hT : Tab6 w) (hl : l.length = n) (hn : n ≤ 1048576) (ha : RLin w a l) (hd : ∀ r ∈ l, Bytey r.data) :
    Calls Tryd.prog 28 #[.slice a n c] w (PrPost (fmR l) w) := by
  obtain ⟨i0, hinf, hz0, hz1, hz2⟩ := info_parts Tryd.info_u8
  have HT : Hid (Tab6 w) := hT
  have HL : Hid (l.length = n) := hl
  have HA : Hid (RLin w a l) := ha
  have HD : Hid (∀ r ∈ l, Bytey r.data) := hd
  clear hT hl ha hd
  go_enter Tryd.func28, Tryd.ntmps28
  go_wp2_with fail
  go_loopw [4, 11] (fun v i wr => ∃ (k : Nat), k ≤ n ∧ i = .int .i64 k ∧ (∀ r ∈ l.take k, mayB6 r = true) ∧ wr.ownsRow w.heap.size 5 1 v ((l.take k).flatMap frB).length (((l.take k).flatMap frB).map (Value.int .u8)) ∧ Below w.heap.size w wr) (fun _ i _ => n - (intOf i).toNat)
  case atStart => exact ⟨0, Nat.zero_le _, rfl, fun r hr => by simp at hr, by simpa using World.ownsRow_nil w w.heap.size _ _, Below.refl _ _⟩
  case round =>
    obtain ⟨k, hk, rfl, hok, hrow, hbw⟩ := hrel
    have hmb := fr_len hok
    rw [List.length_take, HL.out, Nat.min_eq_left hk] at hmb
    have HOK : Hid (∀ r ∈ l.take k, mayB6 r = true) := hok
    have HRW : Hid (wr.ownsRow w.heap.size 5 1 u4 ((l.take k).flatMap frB).length (((l.take k).flatMap frB).map (Value.int .u8))) := hrow
    have HBW : Hid (Below w.heap.size w wr) := hbw
    by_cases hlt : k < n
    · have hkl : k < l.length := by rw [HL.out]; exact hlt
      obtain ⟨r, hr⟩ : ∃ r, l[k]? = some r := ⟨l[k], List.getElem?_eq_getElem hkl⟩
      have hrm : r ∈ l := List.mem_of_getElem? hr
      obtain ⟨g, off, sa, da, sc, dc, rfl, hc, hri⟩ := (HA.out.below hbw).at hr
      have c0 := hc 0 _ rfl
      have c1 := hc 1 _ rfl
      have c2 := hc 2 _ rfl
      have c3 := hc 3 _ rfl
      have c4 := hc 4 _ rfl
      have c5 := hc 5 _ rfl
      have c6 := hc 6 _ rfl
      have c7 := hc 7 _ rfl
      have c8 := hc 8 _ rfl
      have c9 := hc 9 _ rfl
      have c10 := hc 10 _ rfl
      simp only [Nat.add_zero] at c0
      have hlt' : (k : Int) < (n : Int) := by omega
      have HB1 : Hid (Below wr.heap.size wr (wr.alloc (rcO r (.slice sa r.spans.length sc) (.slice da r.data.length dc)))) := (Below.refl _ _).alloc (Nat.le_refl _) _
      have HP := rprint_any r sa da r.spans.length r.data.length sc dc (wr.alloc (rcO r (.slice sa r.spans.length sc) (.slice da r.data.length dc))) (HT.out.below (HBW.out.trans (HB1.out.mono HBW.out.size)) (tab6_pos HT.out)) (hri.below HB1.out)
      have HX1 : Hid ((wr.alloc (rcO r (.slice sa r.spans.length sc) (.slice da r.data.length dc))).heap[wr.heap.size]? = some (rcO r (.slice sa r.spans.length sc) (.slice da r.data.length dc))) := heap_new6 wr _
      have HR : Hid (l[k]? = some r) := hr
      have HRM : Hid (r ∈ l) := hrm
      have HBB : Hid (Below w.heap.size w (wr.alloc (rcO r (.slice sa r.spans.length sc) (.slice da r.data.length dc)))) := HBW.out.trans (HB1.out.mono HBW.out.size)
      clear hc hri hbw hr hrm hok hrow
      cases hm : mayB6 r with
      | false =>
        have HE : Hid (fmR l = ([], 60)) := fmR_no HRM.out hm
        have HPR : Hid (prR r = ([], 60)) := by unfold Hid prR; rw [hm]; rfl
        rw [HPR.out] at HP
        clear HPR hm
        go_wp2_with (go_at_call 19; refine HP.mono ?_; rintro e w2 ⟨v2, rfl, ho2, hb2⟩)
        refine bodyPost_ret (v := .tuple #[.slice none 0 0, .int .i64 60]) (by simp [results, Tryd.results28, go_sem]) rfl ?_
        show PrPost (fmR l) w _ _
        rw [HE.out]
        exact ⟨_, rfl, World.ownsRow_nil _ _ _ _, HBB.out.trans (hb2.mono HBB.out.size)⟩
      | true =>
        have HPR : Hid (prR r = (prB r, 0)) := by unfold Hid prR; rw [hm]; rfl
        have HOK2 : Hid (∀ q ∈ l.take (k + 1), mayB6 q = true) := takeOk6 HOK.out HR.out hm
        have hpl := prB_len hm
        have HBP : Hid (Bytey (prB r)) := prB_bytey hm (HD.out r HRM.out)
        have hcr := crs_lt HBP.out
        have HTK : Hid ((l.take (k + 1)).flatMap frB = (((l.take k).flatMap frB ++ wd4 (((prB r).length : Nat) : Int)) ++ wd4 ((crs (prB r) : Nat) : Int)) ++ prB r) := by
          unfold Hid
          rw [fr_take l hkl, (List.getElem?_eq_some_iff.mp HR.out).2]
          unfold frB
          simp only [List.append_assoc]
        have hwL : IntKind.u32.wrap ((((prB r).length : Nat) : Int)) = (((prB r).length : Nat) : Int) := by rw [wrap_u32]; omega
        rw [HPR.out] at HP
        clear HPR hm
        generalize hA : (l.take k).flatMap frB = A at *
        generalize prB r = B at *
        obtain ⟨m, hmA⟩ : ∃ m, A.length = m := ⟨_, rfl⟩
        obtain ⟨q, hq⟩ : ∃ q, B.length = q := ⟨_, rfl⟩
        obtain ⟨X, hX⟩ : ∃ X, crs B = X := ⟨_, rfl⟩
        rw [hmA] at HRW hmb
        have HQL : Hid (B.length = q) := hq
        have HXX : Hid (crs B = X) := hX
        have HMA : Hid (A.length = m) := hmA
        rw [hq] at HTK hpl hwL
        rw [hX] at HTK hcr
        clear hq hX hmA hA
        go_upto_region 8 with (go_at_call 19; refine HP.mono ?_; rintro e w2 ⟨v2, rfl, ho2, hb2⟩; simp only [HQL.out] at ho2; obtain ⟨p2, x2, rfl, hlz2, hln2, hnx2, hcx2⟩ := row_sh2 ho2)
        have hs2 := hb2.size
        have hsw : w.heap.size ≤ wr.heap.size := HBW.out.size
        have hsa : (wr.alloc (rcO r (.slice sa r.spans.length sc) (.slice da r.data.length dc))).heap.size = wr.heap.size + 1 := by simp
        rw [hsa] at hs2 ho2
        have HB2 : Hid (Below w.heap.size w w2) := HBB.out.trans (hb2.mono (by rw [hsa]; omega))
        have HR2 : Hid (w2.ownsRow w.heap.size 5 1 u4 m (A.map (Value.int .u8))) := own_below6 (own_below6 HRW.out HB1.out) hb2
        have HVL : Hid (∀ j, u4.ownBlock = some j → j < wr.heap.size) := fun j hj => (HRW.out.lt j hj).2
        have HO2 : Hid (w2.ownsRow (wr.heap.size + 1) 5 1 (.slice p2 q x2) q (B.map (Value.int .u8))) := ho2
        have HPW : Hid (∀ (v : Value) (zs : List Int) (m' : Nat) (W : World) (y : Int), 0 ≤ y ∧ y < 4294967296 → W.ownsRow w.heap.size 5 1 v m' (zs.map (Value.int .u8)) → m' ≤ 140737488355000 → w.heap.size ≤ W.heap.size → Calls Tryd.prog 57 #[v, .int .u32 y] W fun e w' => ∃ v', e = .returned v' ∧ w'.ownsRow w.heap.size 5 1 v' (m' + 4) ((zs ++ wd4 y).map (Value.int .u8)) ∧ W.grownBy w' v.ownBlock ∧ (∀ j, v'.ownBlock = some j → v.ownBlock = some j ∨ W.heap.size ≤ j)) := fun v zs m' W y h1 h2 h3 h4 => putWord_any _ m' v zs y W h1 h2 h3 h4
        have HZN : Hid (p2 = none → q = 0 ∧ x2 = 0) := fun h => by
          obtain ⟨_, ⟨h1, h2⟩ | ⟨g', cap', cur, h1, _⟩⟩ := HO2.out
          · simp only [Value.slice.injEq] at h1; exact ⟨h1.2.1, h1.2.2⟩
          · rw [h] at h1; cases h1
        clear hb2 ho2 hlz2 hln2 c0 c1 c2 c3 c4 c5 c6 c7 c8 c9 c10 HP hsa
        go_upto_region 9 with (go_at_call 57; refine (HPW.out _ A m _ _ (by omega) HR2.out (by omega) (by omega)).mono ?_; rintro e w3 ⟨v3, rfl, hr3, hg3, hf3⟩)
        have hs3 := hg3.size
        have HO3 : Hid (w3.ownsRow (wr.heap.size + 1) 5 1 (.slice p2 q x2) q (B.map (Value.int .u8))) := own_keep6 HO2.out hg3 (fun j hj e => by have := HVL.out j e; have := (HO2.out.lt j hj).1; omega)
        have HR3 : Hid (w3.ownsRow w.heap.size 5 1 v3 (m + 4) ((A ++ wd4 (q : Int)).map (Value.int .u8))) := hr3
        have HB3 : Hid (Below w.heap.size w w3) := HB2.out.grown hg3 HB2.out.size (fun j hj => (HR2.out.lt j hj).1)
        have HV3 : Hid (∀ j, v3.ownBlock = some j → j < wr.heap.size ∨ w2.heap.size ≤ j) := fun j hj => by rcases hf3 j hj with h | h; exact .inl (HVL.out j h); exact .inr h
        have HS3 : Hid (Lies .u8 w3 p2 B) := by obtain ⟨p', x', h1, h2, _⟩ := row_sh2 HO3.out; simp only [Value.slice.injEq] at h1; obtain ⟨rfl, _, rfl⟩ := h1; exact h2
        have HO2B : Hid (∀ j, (Value.slice p2 q x2).ownBlock = some j → wr.heap.size + 1 ≤ j ∧ j < w2.heap.size) := fun j hj => HO2.out.lt j hj
        have HSU : Hid (Calls Tryd.prog 32 #[.slice p2 q x2] w3 fun e w' => e = .returned (.int .u32 (X : Nat)) ∧ w3 = w') := by
          have := sum_any p2 B q x2 w3 HBP.out HQL.out (by omega) HS3.out
          rw [HXX.out] at this
          exact this
        clear hr3 hg3 hf3 HR2 HO2 HB2
        go_upto_region 10 with (first
          | (go_at_call 32; refine HSU.out.mono ?_; rintro e w' ⟨rfl, rfl⟩)
          | (go_at_call 57; refine (HPW.out _ (A ++ wd4 (q : Int)) (m + 4) _ _ (by omega) HR3.out (by omega) (by omega)).mono ?_; rintro e w4 ⟨v4, rfl, hr4, hg4, hf4⟩))
        have hs4 := hg4.size
        have HO4 : Hid (w4.ownsRow (wr.heap.size + 1) 5 1 (.slice p2 q x2) q (B.map (Value.int .u8))) := own_keep6 HO3.out hg4 (fun j hj e => by have := HO2B.out j hj; rcases HV3.out j e with h | h <;> omega)
        have HR4 : Hid (w4.ownsRow w.heap.size 5 1 v4 (m + 4 + 4) (((A ++ wd4 (q : Int)) ++ wd4 (X : Int)).map (Value.int .u8))) := hr4
        have HB4 : Hid (Below w.heap.size w w4) := HB3.out.grown hg4 HB3.out.size (fun j hj => (HR3.out.lt j hj).1)
        have HS4 : Hid (Lies .u8 w4 p2 B) := by obtain ⟨p', x', h1, h2, _⟩ := row_sh2 HO4.out; simp only [Value.slice.injEq] at h1; obtain ⟨rfl, _, rfl⟩ := h1; exact h2
        clear hr4 hg4 hf4 HR3 HO3 HB3 HS3 HSU HO4
        go_wp2_with (at_builtin; refine append_at _ rfl _ _ 39 rfl w.heap.size 5 i0 (.int .u8 0) 1 Tryd.underlying39 hinf hz0 hz1 hz2 rfl _ _ _ rfl HR4.out .u8 _ _ _ B rfl HZN.out HQL.out HS4.out (by unfold maxLen; omega) (by omega) HB4.out.size ?_; intro v5 w5 ho5 hg5 hf5)
        have HR5 : Hid (w5.ownsRow w.heap.size 5 1 v5 ((l.take (k + 1)).flatMap frB).length (((l.take (k + 1)).flatMap frB).map (Value.int .u8))) := by
          unfold Hid
          rw [HTK.out, List.map_append]
          have : (A ++ wd4 (q : Int) ++ wd4 (X : Int) ++ B).length = m + 4 + 4 + q := by simp [wd4, HMA.out, HQL.out]; omega
          rw [this]
          exact ho5
        have HB5 : Hid (Below w.heap.size w w5) := HB4.out.grown hg5 HB4.out.size (fun j hj => (HR4.out.lt j hj).1)
        clear ho5 hg5 hf5
        go_wp2
        go_roundw
        case rel => exact ⟨k + 1, by omega, by go_num, HOK2.out, HR5.out, HB5.out⟩
        case measure => simp [intOf]; omega
    · obtain rfl : k = n := by omega
      have HE : Hid (fmR l = (l.flatMap frB, 0)) := fmR_ok (by have := HOK.out; rw [List.take_of_length_le (by rw [HL.out]; exact Nat.le_refl _)] at this; exact this)
      have HR2 : Hid (wr.ownsRow w.heap.size 5 1 u4 (l.flatMap frB).length ((l.flatMap frB).map (Value.int .u8))) := by have := HRW.out; rw [List.take_of_length_le (by rw [HL.out]; exact Nat.le_refl _)] at this; exact this
      clear hok hrow hbw
      go_wp2
      refine bodyPost_ret (v := .tuple #[u4, .int .i64 0]) (by simp [results, Tryd.results28, go_sem]) rfl ?_
      show PrPost (fmR l) w _ _
      rw [HE.out]
      exact ⟨_, rfl, HR2.out, HBW.out⟩
end Go.Proofs.YtgmbpagbiakciafDoor

namespace Go.Proofs.YtgmbpagbiakciafDoor
open Go.RowKit
set_option linter.unusedVariables false
set_option linter.unusedSimpArgs false

set_option maxRecDepth 100000 in
set_option maxHeartbeats 1000000 in
theorem four2_any (base m : Nat) (v : Value) (zs : List Int) (n : Int) (w : World) (hn : 0 ≤ n ∧ n < 4294967296) (ho : w.ownsRow base 5 1 v m (zs.map (Value.int .u8))) (hm : m ≤ 140737488355000) (hB : base ≤ w.heap.size) :
    Calls Tryd.prog 56 #[v, .int .i64 n] w fun e w' => ∃ v', e = .returned v' ∧ w'.ownsRow base 5 1 v' (m + 4) ((zs ++ wd4 n).map (Value.int .u8)) ∧ w.grownBy w' v.ownBlock ∧ (∀ j, v'.ownBlock = some j → v.ownBlock = some j ∨ w.heap.size ≤ j) := by
  obtain ⟨i0, hinf, hz0, hz1, hz2⟩ := info_parts Tryd.info_u8
  obtain ⟨a, cap, rfl⟩ : ∃ a cap, v = .slice a m cap := by
    obtain ⟨_, ⟨rfl, rfl⟩ | ⟨g, cap, cur, rfl, _⟩⟩ := ho
    · exact ⟨none, 0, rfl⟩
    · exact ⟨_, cap, rfl⟩
  obtain ⟨n0, n1⟩ := hn
  have HO : Hid (∀ o, (w.alloc o).ownsRow base 5 1 (.slice a m cap) m (zs.map (Value.int .u8))) := fun o => ho.alloc o
  clear ho
  have q0 : Int.tdiv n 16777216 = n / 16777216 := Int.tdiv_eq_ediv_of_nonneg n0
  have q1 : Int.tdiv n 65536 = n / 65536 := Int.tdiv_eq_ediv_of_nonneg n0
  have q2 : Int.tdiv n 256 = n / 256 := Int.tdiv_eq_ediv_of_nonneg n0
  go_enter Tryd.func56, Tryd.ntmps56
  go_wp2_with (at_builtin; refine wpList_append_own_at _ rfl _ _ 39 rfl base 5 i0 (.int .u8 0) 1 1 Tryd.underlying39 hinf hz0 hz1 hz2 rfl (by decide) _ _ _ rfl (HO.out _) ⟨w.heap.size, 0, none⟩ 4 4 [.int .u8 (n / 16777216), .int .u8 (n / 65536 % 256), .int .u8 (n / 256 % 256), .int .u8 (n % 256)] rfl rfl (four_lit _ _ _ _ _ _) (by intro u hu; simp at hu; rcases hu with rfl | rfl | rfl | rfl <;> rfl) (by unfold maxLen; omega) (by omega) (by simp; omega) ?_; intro v1 w1 o1 g1 _ t1)
  have hs1 := g1.size
  simp only [World.size_alloc] at hs1
  have HV : Hid (∀ j, v1.ownBlock = some j → (Value.slice a m cap).ownBlock = some j ∨ w.heap.size ≤ j) := fun j hj => by
    rcases t1 with t | t
    · exact .inl (t ▸ hj)
    · right; rw [hj] at t; simp at t; omega
  have HG : Hid (w.grownBy w1 (Value.slice a m cap).ownBlock) := by
    refine ⟨g1.os, g1.tape, g1.output, by omega, fun g hg hne => ?_⟩
    exact (g1.block g (by simp; omega) hne).trans (((Below.refl w.heap.size w).alloc (Nat.le_refl _) _).block g hg)
  have HR : Hid (w1.ownsRow base 5 1 v1 (m + 4) ((zs ++ wd4 n).map (Value.int .u8))) := by unfold Hid; rw [List.map_append]; exact o1
  clear o1 g1 t1
  go_wp2
  go_ret
  exact ⟨_, rfl, HR.out, HG.out, HV.out⟩

set_option maxRecDepth 100000 in
set_option maxHeartbeats 4000000 in
theorem frame2_any (l : List Rc) (a : Option Addr) (n c : Nat) (w : World) (hl : l.length = n) (hn : n ≤ 1048576) (ha : RLin w a l) (hd : ∀ r ∈ l, Bytey r.data) :
    Calls Tryd.prog 27 #[.slice a n c] w (PrPost (fmR l) w) := by
  obtain ⟨i0, hinf, hz0, hz1, hz2⟩ := info_parts Tryd.info_u8
  have HL : Hid (l.length = n) := hl
  have HA : Hid (RLin w a l) := ha
  have HD : Hid (∀ r ∈ l, Bytey r.data) := hd
  clear hl ha hd
  go_enter Tryd.func27, Tryd.ntmps27
  go_wp2_with fail
  go_loopw [4, 5] (fun v i wr => ∃ (k : Nat), k ≤ n ∧ i = .int .i64 k ∧ (∀ r ∈ l.take k, mayB6 r = true) ∧ wr.ownsRow w.heap.size 5 1 v ((l.take k).flatMap frB).length (((l.take k).flatMap frB).map (Value.int .u8)) ∧ Below w.heap.size w wr) (fun _ i _ => n - (intOf i).toNat)
  case atStart => exact ⟨0, Nat.zero_le _, rfl, fun r hr => by simp at hr, by simpa using World.ownsRow_nil w w.heap.size _ _, Below.refl _ _⟩
  case round =>
    obtain ⟨k, hk, rfl, hok, hrow, hbw⟩ := hrel
    have hmb := fr_len hok
    rw [List.length_take, HL.out, Nat.min_eq_left hk] at hmb
    have HOK : Hid (∀ r ∈ l.take k, mayB6 r = true) := hok
    have HRW : Hid (wr.ownsRow w.heap.size 5 1 u4 ((l.take k).flatMap frB).length (((l.take k).flatMap frB).map (Value.int .u8))) := hrow
    have HBW : Hid (Below w.heap.size w wr) := hbw
    by_cases hlt : k < n
    · have hkl : k < l.length := by rw [HL.out]; exact hlt
      obtain ⟨r, hr⟩ : ∃ r, l[k]? = some r := ⟨l[k], List.getElem?_eq_getElem hkl⟩
      have hrm : r ∈ l := List.mem_of_getElem? hr
      obtain ⟨g, off, sa, da, sc, dc, rfl, hc, hri⟩ := (HA.out.below hbw).at hr
      have c0 := hc 0 _ rfl
      have c1 := hc 1 _ rfl
      have c2 := hc 2 _ rfl
      have c3 := hc 3 _ rfl
      have c4 := hc 4 _ rfl
      have c5 := hc 5 _ rfl
      have c6 := hc 6 _ rfl
      have c7 := hc 7 _ rfl
      have c8 := hc 8 _ rfl
      have c9 := hc 9 _ rfl
      have c10 := hc 10 _ rfl
      simp only [Nat.add_zero] at c0
      have hlt' : (k : Int) < (n : Int) := by omega
      have HP := print2_any r sa da r.spans.length r.data.length sc dc wr hri
      have HR : Hid (l[k]? = some r) := hr
      have HRM : Hid (r ∈ l) := hrm
      have HBB : Hid (Below w.heap.size w wr) := HBW.out
      clear hc hri hbw hr hrm hok hrow
      cases hm : mayB6 r with
      | false =>
        have HE : Hid (fmR l = ([], 60)) := fmR_no HRM.out hm
        have HPR : Hid (prR r = ([], 60)) := by unfold Hid prR; rw [hm]; rfl
        rw [HPR.out] at HP
        clear HPR hm
        go_wp2_with (go_at_call 15; refine HP.mono ?_; rintro e w2 ⟨v2, rfl, ho2, hb2⟩)
        refine bodyPost_ret (v := .tuple #[.slice none 0 0, .int .i64 60]) (by simp [results, Tryd.results27, go_sem]) rfl ?_
        show PrPost (fmR l) w _ _
        rw [HE.out]
        exact ⟨_, rfl, World.ownsRow_nil _ _ _ _, HBB.out.trans (hb2.mono HBB.out.size)⟩
      | true =>
        have HPR : Hid (prR r = (prB r, 0)) := by unfold Hid prR; rw [hm]; rfl
        have HOK2 : Hid (∀ q ∈ l.take (k + 1), mayB6 q = true) := takeOk6 HOK.out HR.out hm
        have hpl := prB_len hm
        have HBP : Hid (Bytey (prB r)) := prB_bytey hm (HD.out r HRM.out)
        have hcr := crs_lt HBP.out
        have HTK : Hid ((l.take (k + 1)).flatMap frB = (((l.take k).flatMap frB ++ wd4 (((prB r).length : Nat) : Int)) ++ wd4 ((crs (prB r) : Nat) : Int)) ++ prB r) := by
          unfold Hid
          rw [fr_take l hkl, (List.getElem?_eq_some_iff.mp HR.out).2]
          unfold frB
          simp only [List.append_assoc]
        have hwX : IntKind.i64.wrap ((crs (prB r) : Nat) : Int) = ((crs (prB r) : Nat) : Int) := by simp [IntKind.wrap, IntKind.bits, IntKind.signed]; omega
        rw [HPR.out] at HP
        clear HPR hm
        generalize hA : (l.take k).flatMap frB = A at *
        generalize prB r = B at *
        obtain ⟨m, hmA⟩ : ∃ m, A.length = m := ⟨_, rfl⟩
        obtain ⟨q, hq⟩ : ∃ q, B.length = q := ⟨_, rfl⟩
        obtain ⟨X, hX⟩ : ∃ X, crs B = X := ⟨_, rfl⟩
        rw [hmA] at HRW hmb
        have HQL : Hid (B.length = q) := hq
        have HXX : Hid (crs B = X) := hX
        have HMA : Hid (A.length = m) := hmA
        rw [hq] at HTK hpl
        rw [hX] at HTK hcr hwX
        clear hq hX hmA hA
        go_upto_region 8 with (go_at_call 15; refine HP.mono ?_; rintro e w2 ⟨v2, rfl, ho2, hb2⟩; simp only [HQL.out] at ho2; obtain ⟨p2, x2, rfl, hlz2, hln2, hnx2, hcx2⟩ := row_sh2 ho2)
        have hs2 := hb2.size
        have hsw : w.heap.size ≤ wr.heap.size := HBW.out.size
        have HB2 : Hid (Below w.heap.size w w2) := HBB.out.trans (hb2.mono hsw)
        have HR2 : Hid (w2.ownsRow w.heap.size 5 1 u4 m (A.map (Value.int .u8))) := own_below6 HRW.out hb2
        have HVL : Hid (∀ j, u4.ownBlock = some j → j < wr.heap.size) := fun j hj => (HRW.out.lt j hj).2
        have HO2 : Hid (w2.ownsRow wr.heap.size 5 1 (.slice p2 q x2) q (B.map (Value.int .u8))) := ho2
        have HPW : Hid (∀ (v : Value) (zs : List Int) (m' : Nat) (W : World) (y : Int), 0 ≤ y ∧ y < 4294967296 → W.ownsRow w.heap.size 5 1 v m' (zs.map (Value.int .u8)) → m' ≤ 140737488355000 → w.heap.size ≤ W.heap.size → Calls Tryd.prog 56 #[v, .int .i64 y] W fun e w' => ∃ v', e = .returned v' ∧ w'.ownsRow w.heap.size 5 1 v' (m' + 4) ((zs ++ wd4 y).map (Value.int .u8)) ∧ W.grownBy w' v.ownBlock ∧ (∀ j, v'.ownBlock = some j → v.ownBlock = some j ∨ W.heap.size ≤ j)) := fun v zs m' W y h1 h2 h3 h4 => four2_any _ m' v zs y W h1 h2 h3 h4
        have HZN : Hid (p2 = none → q = 0 ∧ x2 = 0) := fun h => by
          obtain ⟨_, ⟨h1, h2⟩ | ⟨g', cap', cur, h1, _⟩⟩ := HO2.out
          · simp only [Value.slice.injEq] at h1; exact ⟨h1.2.1, h1.2.2⟩
          · rw [h] at h1; cases h1
        clear hb2 ho2 hlz2 hln2 c0 c1 c2 c3 c4 c5 c6 c7 c8 c9 c10 HP
        have HS2 : Hid (Lies .u8 w2 p2 B) := by obtain ⟨p', x', h1, h2, _⟩ := row_sh2 HO2.out; simp only [Value.slice.injEq] at h1; obtain ⟨rfl, _, rfl⟩ := h1; exact h2
        have HSU : Hid (Calls Tryd.prog 31 #[.slice p2 q x2] w2 fun e w' => e = .returned (.int .u32 (X : Nat)) ∧ w2 = w') := by
          have := rsum_any p2 B q x2 w2 HBP.out HQL.out (by omega) HS2.out
          rw [HXX.out] at this
          exact this
        go_upto_region 10 with (first
          | (go_at_call 31; refine HSU.out.mono ?_; rintro e w' ⟨rfl, rfl⟩)
          | (go_at_call 56; refine (HPW.out _ A m _ _ (by omega) HR2.out (by omega) (by omega)).mono ?_; rintro e w3 ⟨v3, rfl, hr3, hg3, hf3⟩))
        have hs3 := hg3.size
        have HO3 : Hid (w3.ownsRow wr.heap.size 5 1 (.slice p2 q x2) q (B.map (Value.int .u8))) := own_keep6 HO2.out hg3 (fun j hj e => by have := HVL.out j e; have := (HO2.out.lt j hj).1; omega)
        have HR3 : Hid (w3.ownsRow w.heap.size 5 1 v3 (m + 4) ((A ++ wd4 (q : Int)).map (Value.int .u8))) := hr3
        have HB3 : Hid (Below w.heap.size w w3) := HB2.out.grown hg3 HB2.out.size (fun j hj => (HR2.out.lt j hj).1)
        have HV3 : Hid (∀ j, v3.ownBlock = some j → j < wr.heap.size ∨ w2.heap.size ≤ j) := fun j hj => by rcases hf3 j hj with h | h; exact .inl (HVL.out j h); exact .inr h
        have HO2B : Hid (∀ j, (Value.slice p2 q x2).ownBlock = some j → wr.heap.size ≤ j ∧ j < w2.heap.size) := fun j hj => HO2.out.lt j hj
        clear hr3 hg3 hf3 HR2 HO2 HB2 HSU HS2
        go_upto_region 11 with (go_at_call 56; refine (HPW.out _ (A ++ wd4 (q : Int)) (m + 4) _ _ (by omega) HR3.out (by omega) (by omega)).mono ?_; rintro e w4 ⟨v4, rfl, hr4, hg4, hf4⟩)
        have hs4 := hg4.size
        have HO4 : Hid (w4.ownsRow wr.heap.size 5 1 (.slice p2 q x2) q (B.map (Value.int .u8))) := own_keep6 HO3.out hg4 (fun j hj e => by have := HO2B.out j hj; rcases HV3.out j e with h | h <;> omega)
        have HR4 : Hid (w4.ownsRow w.heap.size 5 1 v4 (m + 4 + 4) (((A ++ wd4 (q : Int)) ++ wd4 (X : Int)).map (Value.int .u8))) := hr4
        have HB4 : Hid (Below w.heap.size w w4) := HB3.out.grown hg4 HB3.out.size (fun j hj => (HR3.out.lt j hj).1)
        have HS4 : Hid (Lies .u8 w4 p2 B) := by obtain ⟨p', x', h1, h2, _⟩ := row_sh2 HO4.out; simp only [Value.slice.injEq] at h1; obtain ⟨rfl, _, rfl⟩ := h1; exact h2
        clear hr4 hg4 hf4 HR3 HO3 HB3 HO4
        go_wp2_with (at_builtin; refine append_at _ rfl _ _ 39 rfl w.heap.size 5 i0 (.int .u8 0) 1 Tryd.underlying39 hinf hz0 hz1 hz2 rfl _ _ _ rfl HR4.out .u8 _ _ _ B rfl HZN.out HQL.out HS4.out (by unfold maxLen; omega) (by omega) HB4.out.size ?_; intro v5 w5 ho5 hg5 hf5)
        have HR5 : Hid (w5.ownsRow w.heap.size 5 1 v5 ((l.take (k + 1)).flatMap frB).length (((l.take (k + 1)).flatMap frB).map (Value.int .u8))) := by
          unfold Hid
          rw [HTK.out, List.map_append]
          have : (A ++ wd4 (q : Int) ++ wd4 (X : Int) ++ B).length = m + 4 + 4 + q := by simp [wd4, HMA.out, HQL.out]; omega
          rw [this]
          exact ho5
        have HB5 : Hid (Below w.heap.size w w5) := HB4.out.grown hg5 HB4.out.size (fun j hj => (HR4.out.lt j hj).1)
        clear ho5 hg5 hf5
        go_wp2
        go_roundw
        case rel => exact ⟨k + 1, by omega, by go_num, HOK2.out, HR5.out, HB5.out⟩
        case measure => simp [intOf]; omega
    · obtain rfl : k = n := by omega
      have HE : Hid (fmR l = (l.flatMap frB, 0)) := fmR_ok (by have := HOK.out; rw [List.take_of_length_le (by rw [HL.out]; exact Nat.le_refl _)] at this; exact this)
      have HR2 : Hid (wr.ownsRow w.heap.size 5 1 u4 (l.flatMap frB).length ((l.flatMap frB).map (Value.int .u8))) := by have := HRW.out; rw [List.take_of_length_le (by rw [HL.out]; exact Nat.le_refl _)] at this; exact this
      clear hok hrow hbw
      go_wp2
      refine bodyPost_ret (v := .tuple #[u4, .int .i64 0]) (by simp [results, Tryd.results27, go_sem]) rfl ?_
      show PrPost (fmR l) w _ _
      rw [HE.out]
      exact ⟨_, rfl, HR2.out, HBW.out⟩
end Go.Proofs.YtgmbpagbiakciafDoor

namespace Go.Proofs.YtgmbpagbiakciafDoor
open Go.RowKit
set_option linter.unusedVariables false
set_option linter.unusedSimpArgs false

/-- A record that was lent: its lists' blocks. -/
structure Le where
  r : Rc
  gd : Nat
  gs : Nat
abbrev Le.sv (o : Le) : Value := .slice (some ⟨o.gs, 0, none⟩) o.r.spans.length (o.r.spans.length + 2)
abbrev Le.dv (o : Le) : Value := .slice (some ⟨o.gd, 0, none⟩) o.r.data.length (o.r.data.length + 2)
def llC (os : List Le) : List Value := os.flatMap fun o => (rcC o.r o.sv o.dv).toList
theorem llC_push (os : List Le) (o : Le) : llC (os ++ [o]) = llC os ++ (rcC o.r o.sv o.dv).toList := by
  unfold llC
  simp
theorem llC_at : ∀ {os : List Le} {i : Nat} {o : Le}, os[i]? = some o → ∀ j u, (rcC o.r o.sv o.dv)[j]? = some u → (llC os)[i * 11 + j]? = some u
  | [], i, o, hi, j, u, hj => by simp at hi
  | x :: os, 0, o, hi, j, u, hj => by
    simp at hi
    subst hi
    have hj2 : j < 11 := (Array.getElem?_eq_some_iff.mp hj).1
    unfold llC
    rw [List.flatMap_cons, List.getElem?_append_left (by simp; omega)]
    simpa using hj
  | x :: os, i + 1, o, hi, j, u, hj => by
    have ih := llC_at (os := os) (i := i) (by simpa using hi) j u hj
    unfold llC at ih ⊢
    rw [List.flatMap_cons, List.getElem?_append_right (by simp; omega), ← ih]
    congr 1
    simp
    omega
abbrev Le.Lnd (w : World) (lo : Nat) (o : Le) : Prop := _root_.Go.Proofs.YtgmbpagbiakciafDoor.Lnd w lo o.gd o.gs o.r.spans.length o.r.data.length o.r.spans o.r.data
theorem Lnd.same {w w' : World} {base gd gs ns nd : Nat} {l : List (Int × Int)} {zs : List Int} (h : Lnd w base gd gs ns nd l zs) (h1 : w'.heap[gd]? = w.heap[gd]?) (h2 : w'.heap[gs]? = w.heap[gs]?) : Lnd w' base gd gs ns nd l zs :=
  ⟨h1.trans h.dat, own_same h.spn (fun k hk => by simp [Value.ownBlock] at hk; subst hk; exact h2), h.ndl, h.nsl, h.ne, h.lo, h.sd, h.ss⟩
theorem Lnd.lower {w : World} {base base' gd gs ns nd : Nat} {l : List (Int × Int)} {zs : List Int} (h : Lnd w base gd gs ns nd l zs) (hb : base' ≤ base) : Lnd w base' gd gs ns nd l zs :=
  ⟨h.dat, own_lower h.spn hb, h.ndl, h.nsl, h.ne, Nat.le_trans hb h.lo, h.sd, h.ss⟩
theorem Lnd.lts {w : World} {base gd gs ns nd : Nat} {l : List (Int × Int)} {zs : List Int} (h : Lnd w base gd gs ns nd l zs) : base ≤ gd ∧ gd < w.heap.size ∧ base ≤ gs ∧ gs < w.heap.size :=
  ⟨h.lo, (Array.getElem?_eq_some_iff.mp h.dat).1, h.gsl.1, h.gsl.2⟩
/-- No two lists lie in one block. -/
structure Lsep (v : Value) (os : List Le) : Prop where
  row : ∀ (i : Nat) (o : Le), os[i]? = some o → v.ownBlock ≠ some o.gd ∧ v.ownBlock ≠ some o.gs
  two : ∀ (i j : Nat) (o q : Le), os[i]? = some o → os[j]? = some q → i ≠ j → o.gd ≠ q.gd ∧ o.gd ≠ q.gs ∧ o.gs ≠ q.gs
/-- A list of records that were lent. -/
structure Ll (w : World) (lo : Nat) (v : Value) (os : List Le) : Prop where
  row : w.ownsRow lo 41 11 v os.length (llC os)
  lnd : ∀ (i : Nat) (o : Le), os[i]? = some o → o.Lnd w lo
  sep : Lsep v os
theorem Ll.start (w : World) (lo : Nat) : Ll w lo (.slice none 0 0) [] :=
  ⟨World.ownsRow_nil _ _ _ _, fun i o hi => by simp at hi, ⟨fun i o hi => by simp at hi, fun i j o q hi => by simp at hi⟩⟩
theorem Ll.keep {w w' : World} {lo : Nat} {v : Value} {os : List Le} (h : Ll w lo v os) (hb : Below w.heap.size w w') : Ll w' lo v os :=
  ⟨own_below6 h.row hb, fun i o hi => (h.lnd i o hi).below hb, h.sep⟩
theorem snoc_at {α : Type} {os : List α} {o x : α} {i : Nat} (h : (os ++ [o])[i]? = some x) : (i < os.length ∧ os[i]? = some x) ∨ (i = os.length ∧ x = o) := by
  rcases Nat.lt_or_ge i os.length with q | q
  · rw [List.getElem?_append_left q] at h; exact .inl ⟨q, h⟩
  · rw [List.getElem?_append_right q] at h
    have : i - os.length = 0 := by
      rcases Nat.eq_zero_or_pos (i - os.length) with e | e
      · exact e
      · rw [List.getElem?_eq_none (by simp; omega)] at h; cases h
    rw [this] at h
    simp at h
    exact .inr ⟨by omega, h.symm⟩
theorem Ll.push {w w1 w2 : World} {lo : Nat} {v v' : Value} {os : List Le} (h : Ll w lo v os) (hlo : lo ≤ w.heap.size) (hb : Below w.heap.size w w1) (o : Le) (hl : o.Lnd w1 w.heap.size)
    (hg : w1.grownBy w2 v.ownBlock) (hr : w2.ownsRow lo 41 11 v' (os.length + 1) (llC os ++ (rcC o.r o.sv o.dv).toList)) (hf : ∀ j, v'.ownBlock = some j → v.ownBlock = some j ∨ w1.heap.size ≤ j) : Ll w2 lo v' (os ++ [o]) := by
  have hz := hb.size
  have hv : ∀ k, v.ownBlock = some k → k < w.heap.size := fun k hk => (h.row.lt k hk).2
  have ho := hl.lts
  refine ⟨?_, fun i x hi => ?_, ⟨fun i x hi => ?_, fun i j x y hi hj hij => ?_⟩⟩
  · rw [llC_push]; simpa using hr
  · rcases snoc_at hi with ⟨_, q⟩ | ⟨_, rfl⟩
    · have q1 := h.lnd i x q
      have q2 := q1.lts
      have q3 := h.sep.row i x q
      exact (q1.below hb).same (hg.block _ (by omega) (fun e => q3.1 e.symm)) (hg.block _ (by omega) (fun e => q3.2 e.symm))
    · exact (hl.same (hg.block _ (by omega) (fun e => by have := hv _ e.symm; omega)) (hg.block _ (by omega) (fun e => by have := hv _ e.symm; omega))).lower hlo
  · rcases snoc_at hi with ⟨_, q⟩ | ⟨_, rfl⟩
    · have q2 := (h.lnd i x q).lts
      have q3 := h.sep.row i x q
      refine ⟨fun e => ?_, fun e => ?_⟩
      · rcases hf _ e with e2 | e2
        · exact q3.1 e2
        · omega
      · rcases hf _ e with e2 | e2
        · exact q3.2 e2
        · omega
    · refine ⟨fun e => ?_, fun e => ?_⟩
      · rcases hf _ e with e2 | e2
        · have := hv _ e2; omega
        · omega
      · rcases hf _ e with e2 | e2
        · have := hv _ e2; omega
        · omega
  · rcases snoc_at hi with ⟨hil, q⟩ | ⟨hil, rfl⟩ <;> rcases snoc_at hj with ⟨hjl, p⟩ | ⟨hjl, rfl⟩
    · exact h.sep.two i j x y q p hij
    · have := (h.lnd i x q).lts; omega
    · have := (h.lnd j y p).lts; omega
    · omega
theorem Ll.rlin {w : World} {lo : Nat} {v : Value} {os : List Le} (h : Ll w lo v os) : ∃ a c, v = .slice a os.length c ∧ RLin w a (os.map Le.r) := by
  obtain ⟨a, c, rfl⟩ := own_sl h.row
  refine ⟨a, c, rfl, ?_⟩
  by_cases h0 : os = []
  · subst h0; exact .inl rfl
  · have hl : 0 < os.length := List.length_pos_iff.mpr h0
    obtain ⟨g, cap, hv⟩ := C.own_some h.row hl
    simp only [Value.slice.injEq] at hv
    obtain ⟨rfl, _, rfl⟩ := hv
    refine .inr ⟨g, 0, rfl, fun i r hr => ?_⟩
    rw [List.getElem?_map] at hr
    cases ho : os[i]? with
    | none => rw [ho] at hr; simp at hr
    | some o =>
      rw [ho] at hr
      simp at hr
      subst hr
      have hi : i < os.length := (List.getElem?_eq_some_iff.mp ho).1
      refine ⟨some ⟨o.gs, 0, none⟩, some ⟨o.gd, 0, none⟩, o.r.spans.length + 2, o.r.data.length + 2, fun j u hj => ?_, (h.lnd i o ho).rin⟩
      have hj2 : j < 11 := (Array.getElem?_eq_some_iff.mp hj).1
      rw [Nat.zero_add, h.row.cellAt _ (by omega)]
      exact llC_at ho j u hj
theorem own_take {w : World} {base n c k : Nat} {e : TypeId} {a : Option Addr} {xs : List Value} (h : w.ownsRow base e 1 (.slice a n c) n xs) (hk : k ≤ n) : w.ownsRow base e 1 (.slice a k c) k (xs.take k) := by
  obtain ⟨hl, ⟨h1, h2⟩ | ⟨g, cap, cur, h1, hb, hh, hn, hm, hs, ht⟩⟩ := h
  · simp only [Value.slice.injEq] at h1
    obtain ⟨rfl, rfl, rfl⟩ := h1
    obtain rfl : k = 0 := by omega
    exact ⟨by simp, .inl ⟨rfl, rfl⟩⟩
  · simp only [Value.slice.injEq] at h1
    obtain ⟨rfl, _, rfl⟩ := h1
    refine ⟨by rw [List.length_take]; omega, .inr ⟨g, c, cur, rfl, hb, hh, by omega, hm, hs, ?_⟩⟩
    rw [← ht, List.take_take]
    congr 1
    omega
end Go.Proofs.YtgmbpagbiakciafDoor
