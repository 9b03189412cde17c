import Derived.Test.YtllhbhogfffedaaGreatDoorRcFrM
import Derived.Test.YtllhbhogfffedaaGreatDoorRcRf8
import Derived.Test.YtllhbhogfffedaaGreatDoorJnIs
import Derived.Test.YtllhbhogfffedaaGreatDoorRcScn
import Derived.Deep.RegionWith
namespace Go.Proofs.YtllhbhogfffedaaGreatDoor
open Go.RowKit
set_option linter.unusedVariables false
set_option linter.unusedSimpArgs false

/-- What Frame answers. -/
def fmR (l : List Rc) : List Int × Int := if l.all mayB6 then (l.flatMap frB, 0) else ([], 60)
theorem fmR_ok {l : List Rc} (h : ∀ r ∈ l, mayB6 r = true) : fmR l = (l.flatMap frB, 0) := by unfold fmR; rw [if_pos (List.all_eq_true.mpr h)]
theorem fmR_no {l : List Rc} {r : Rc} (hr : r ∈ l) (h : mayB6 r = false) : fmR l = ([], 60) := by
  unfold fmR
  rw [if_neg]
  intro q
  have := List.all_eq_true.mp q r hr
  rw [h] at this
  cases this
theorem fr_len : ∀ {l : List Rc}, (∀ r ∈ l, mayB6 r = true) → (l.flatMap frB).length ≤ 80008 * l.length
  | [], _ => by simp
  | r :: l, h => by
    have h1 := fr_len (l := l) (fun q hq => h q (List.mem_cons_of_mem _ hq))
    have h2 := prB_len (h r (List.mem_cons_self ..))
    have h3 := frB_len r
    rw [List.flatMap_cons, List.length_append, List.length_cons]
    omega
theorem takeOk6 {l : List Rc} {k : Nat} {r : Rc} (h : ∀ q ∈ l.take k, mayB6 q = true) (hr : l[k]? = some r) (hm : mayB6 r = true) : ∀ q ∈ l.take (k + 1), mayB6 q = true := by
  intro q hq
  have hk := (List.getElem?_eq_some_iff.mp hr).1
  rw [List.take_succ_eq_append_getElem hk, List.mem_append] at hq
  rcases hq with hq | hq
  · exact h q hq
  · simp at hq
    rw [hq, (List.getElem?_eq_some_iff.mp hr).2]
    exact hm

set_option maxRecDepth 100000 in
set_option maxHeartbeats 4000000 in
theorem frame_any (l : List Rc) (a : Option Addr) (n c : Nat) (w : World) (hT : Tab6 w) (hl : l.length = n) (hn : n ≤ 1048576) (ha : RLin w a l) (hd : ∀ r ∈ l, Bytey r.data) :
    Calls Tryz.prog 83 #[.slice a n c] w (PrPost (fmR l) w) := by
  obtain ⟨i0, hinf, hz0, hz1, hz2⟩ := info_parts Tryz.info_u8
  have HT : Hid (Tab6 w) := hT
  have HL : Hid (l.length = n) := hl
  have HA : Hid (RLin w a l) := ha
  have HD : Hid (∀ r ∈ l, Bytey r.data) := hd
  clear hT hl ha hd
  go_enter Tryz.func83, Tryz.ntmps83
  go_wp2_with fail
  go_loopw [4, 11] (fun v i wr => ∃ (k : Nat), k ≤ n ∧ i = .int .i64 k ∧ (∀ r ∈ l.take k, mayB6 r = true) ∧ wr.ownsRow w.heap.size 5 1 v ((l.take k).flatMap frB).length (((l.take k).flatMap frB).map (Value.int .u8)) ∧ Below w.heap.size w wr) (fun _ i _ => n - (intOf i).toNat)
  case atStart => exact ⟨0, Nat.zero_le _, rfl, fun r hr => by simp at hr, by simpa using World.ownsRow_nil w w.heap.size _ _, Below.refl _ _⟩
  case round =>
    obtain ⟨k, hk, rfl, hok, hrow, hbw⟩ := hrel
    have hmb := fr_len hok
    rw [List.length_take, HL.out, Nat.min_eq_left hk] at hmb
    have HOK : Hid (∀ r ∈ l.take k, mayB6 r = true) := hok
    have HRW : Hid (wr.ownsRow w.heap.size 5 1 u4 ((l.take k).flatMap frB).length (((l.take k).flatMap frB).map (Value.int .u8))) := hrow
    have HBW : Hid (Below w.heap.size w wr) := hbw
    by_cases hlt : k < n
    · have hkl : k < l.length := by rw [HL.out]; exact hlt
      obtain ⟨r, hr⟩ : ∃ r, l[k]? = some r := ⟨l[k], List.getElem?_eq_getElem hkl⟩
      have hrm : r ∈ l := List.mem_of_getElem? hr
      obtain ⟨g, off, sa, da, sc, dc, rfl, hc, hri⟩ := (HA.out.below hbw).at hr
      have c0 := hc 0 _ rfl
      have c1 := hc 1 _ rfl
      have c2 := hc 2 _ rfl
      have c3 := hc 3 _ rfl
      have c4 := hc 4 _ rfl
      have c5 := hc 5 _ rfl
      have c6 := hc 6 _ rfl
      have c7 := hc 7 _ rfl
      have c8 := hc 8 _ rfl
      have c9 := hc 9 _ rfl
      have c10 := hc 10 _ rfl
      simp only [Nat.add_zero] at c0
      have hlt' : (k : Int) < (n : Int) := by omega
      have HB1 : Hid (Below wr.heap.size wr (wr.alloc (rcO r (.slice sa r.spans.length sc) (.slice da r.data.length dc)))) := (Below.refl _ _).alloc (Nat.le_refl _) _
      have HP := rprint_any r sa da r.spans.length r.data.length sc dc (wr.alloc (rcO r (.slice sa r.spans.length sc) (.slice da r.data.length dc))) (HT.out.below (HBW.out.trans (HB1.out.mono HBW.out.size)) (tab6_pos HT.out)) (hri.below HB1.out)
      have HX1 : Hid ((wr.alloc (rcO r (.slice sa r.spans.length sc) (.slice da r.data.length dc))).heap[wr.heap.size]? = some (rcO r (.slice sa r.spans.length sc) (.slice da r.data.length dc))) := heap_new6 wr _
      have HR : Hid (l[k]? = some r) := hr
      have HRM : Hid (r ∈ l) := hrm
      have HBB : Hid (Below w.heap.size w (wr.alloc (rcO r (.slice sa r.spans.length sc) (.slice da r.data.length dc)))) := HBW.out.trans (HB1.out.mono HBW.out.size)
      clear hc hri hbw hr hrm hok hrow
      cases hm : mayB6 r with
      | false =>
        have HE : Hid (fmR l = ([], 60)) := fmR_no HRM.out hm
        have HPR : Hid (prR r = ([], 60)) := by unfold Hid prR; rw [hm]; rfl
        rw [HPR.out] at HP
        clear HPR hm
        go_wp2_with (go_at_call 107; refine HP.mono ?_; rintro e w2 ⟨v2, rfl, ho2, hb2⟩)
        refine bodyPost_ret (v := .tuple #[.slice none 0 0, .int .i64 60]) (by simp [results, Tryz.results83, go_sem]) rfl ?_
        show PrPost (fmR l) w _ _
        rw [HE.out]
        exact ⟨_, rfl, World.ownsRow_nil _ _ _ _, HBB.out.trans (hb2.mono HBB.out.size)⟩
      | true =>
        have HPR : Hid (prR r = (prB r, 0)) := by unfold Hid prR; rw [hm]; rfl
        have HOK2 : Hid (∀ q ∈ l.take (k + 1), mayB6 q = true) := takeOk6 HOK.out HR.out hm
        have hpl := prB_len hm
        have HBP : Hid (Bytey (prB r)) := prB_bytey hm (HD.out r HRM.out)
        have hcr := crs_lt HBP.out
        have HTK : Hid ((l.take (k + 1)).flatMap frB = (((l.take k).flatMap frB ++ wd4 (((prB r).length : Nat) : Int)) ++ wd4 ((crs (prB r) : Nat) : Int)) ++ prB r) := by
          unfold Hid
          rw [fr_take l hkl, (List.getElem?_eq_some_iff.mp HR.out).2]
          unfold frB
          simp only [List.append_assoc]
        have hwL : IntKind.u32.wrap ((((prB r).length : Nat) : Int)) = (((prB r).length : Nat) : Int) := by rw [wrap_u32]; omega
        rw [HPR.out] at HP
        clear HPR hm
        generalize hA : (l.take k).flatMap frB = A at *
        generalize prB r = B at *
        obtain ⟨m, hmA⟩ : ∃ m, A.length = m := ⟨_, rfl⟩
        obtain ⟨q, hq⟩ : ∃ q, B.length = q := ⟨_, rfl⟩
        obtain ⟨X, hX⟩ : ∃ X, crs B = X := ⟨_, rfl⟩
        rw [hmA] at HRW hmb
        have HQL : Hid (B.length = q) := hq
        have HXX : Hid (crs B = X) := hX
        have HMA : Hid (A.length = m) := hmA
        rw [hq] at HTK hpl hwL
        rw [hX] at HTK hcr
        clear hq hX hmA hA
        go_upto_region 8 with (go_at_call 107; refine HP.mono ?_; rintro e w2 ⟨v2, rfl, ho2, hb2⟩; simp only [HQL.out] at ho2; obtain ⟨p2, x2, rfl, hlz2, hln2, hnx2, hcx2⟩ := row_sh2 ho2)
        have hs2 := hb2.size
        have hsw : w.heap.size ≤ wr.heap.size := HBW.out.size
        have hsa : (wr.alloc (rcO r (.slice sa r.spans.length sc) (.slice da r.data.length dc))).heap.size = wr.heap.size + 1 := by simp
        rw [hsa] at hs2 ho2
        have HB2 : Hid (Below w.heap.size w w2) := HBB.out.trans (hb2.mono (by rw [hsa]; omega))
        have HR2 : Hid (w2.ownsRow w.heap.size 5 1 u4 m (A.map (Value.int .u8))) := own_below6 (own_below6 HRW.out HB1.out) hb2
        have HVL : Hid (∀ j, u4.ownBlock = some j → j < wr.heap.size) := fun j hj => (HRW.out.lt j hj).2
        have HO2 : Hid (w2.ownsRow (wr.heap.size + 1) 5 1 (.slice p2 q x2) q (B.map (Value.int .u8))) := ho2
        have HPW : Hid (∀ (v : Value) (zs : List Int) (m' : Nat) (W : World) (y : Int), 0 ≤ y ∧ y < 4294967296 → W.ownsRow w.heap.size 5 1 v m' (zs.map (Value.int .u8)) → m' ≤ 140737488355000 → w.heap.size ≤ W.heap.size → Calls Tryz.prog 108 #[v, .int .u32 y] W fun e w' => ∃ v', e = .returned v' ∧ w'.ownsRow w.heap.size 5 1 v' (m' + 4) ((zs ++ wd4 y).map (Value.int .u8)) ∧ W.grownBy w' v.ownBlock ∧ (∀ j, v'.ownBlock = some j → v.ownBlock = some j ∨ W.heap.size ≤ j)) := fun v zs m' W y h1 h2 h3 h4 => putWord_any _ m' v zs y W h1 h2 h3 h4
        have HZN : Hid (p2 = none → q = 0 ∧ x2 = 0) := fun h => by
          obtain ⟨_, ⟨h1, h2⟩ | ⟨g', cap', cur, h1, _⟩⟩ := HO2.out
          · simp only [Value.slice.injEq] at h1; exact ⟨h1.2.1, h1.2.2⟩
          · rw [h] at h1; cases h1
        clear hb2 ho2 hlz2 hln2 c0 c1 c2 c3 c4 c5 c6 c7 c8 c9 c10 HP hsa
        go_upto_region 9 with (go_at_call 108; refine (HPW.out _ A m _ _ (by omega) HR2.out (by omega) (by omega)).mono ?_; rintro e w3 ⟨v3, rfl, hr3, hg3, hf3⟩)
        have hs3 := hg3.size
        have HO3 : Hid (w3.ownsRow (wr.heap.size + 1) 5 1 (.slice p2 q x2) q (B.map (Value.int .u8))) := own_keep6 HO2.out hg3 (fun j hj e => by have := HVL.out j e; have := (HO2.out.lt j hj).1; omega)
        have HR3 : Hid (w3.ownsRow w.heap.size 5 1 v3 (m + 4) ((A ++ wd4 (q : Int)).map (Value.int .u8))) := hr3
        have HB3 : Hid (Below w.heap.size w w3) := HB2.out.grown hg3 HB2.out.size (fun j hj => (HR2.out.lt j hj).1)
        have HV3 : Hid (∀ j, v3.ownBlock = some j → j < wr.heap.size ∨ w2.heap.size ≤ j) := fun j hj => by rcases hf3 j hj with h | h; exact .inl (HVL.out j h); exact .inr h
        have HS3 : Hid (Lies .u8 w3 p2 B) := by obtain ⟨p', x', h1, h2, _⟩ := row_sh2 HO3.out; simp only [Value.slice.injEq] at h1; obtain ⟨rfl, _, rfl⟩ := h1; exact h2
        have HO2B : Hid (∀ j, (Value.slice p2 q x2).ownBlock = some j → wr.heap.size + 1 ≤ j ∧ j < w2.heap.size) := fun j hj => HO2.out.lt j hj
        have HSU : Hid (Calls Tryz.prog 103 #[.slice p2 q x2] w3 fun e w' => e = .returned (.int .u32 (X : Nat)) ∧ w3 = w') := by
          have := sum_any p2 B q x2 w3 HBP.out HQL.out (by omega) HS3.out
          rw [HXX.out] at this
          exact this
        clear hr3 hg3 hf3 HR2 HO2 HB2
        go_upto_region 10 with (first
          | (go_at_call 103; refine HSU.out.mono ?_; rintro e w' ⟨rfl, rfl⟩)
          | (go_at_call 108; refine (HPW.out _ (A ++ wd4 (q : Int)) (m + 4) _ _ (by omega) HR3.out (by omega) (by omega)).mono ?_; rintro e w4 ⟨v4, rfl, hr4, hg4, hf4⟩))
        have hs4 := hg4.size
        have HO4 : Hid (w4.ownsRow (wr.heap.size + 1) 5 1 (.slice p2 q x2) q (B.map (Value.int .u8))) := own_keep6 HO3.out hg4 (fun j hj e => by have := HO2B.out j hj; rcases HV3.out j e with h | h <;> omega)
        have HR4 : Hid (w4.ownsRow w.heap.size 5 1 v4 (m + 4 + 4) (((A ++ wd4 (q : Int)) ++ wd4 (X : Int)).map (Value.int .u8))) := hr4
        have HB4 : Hid (Below w.heap.size w w4) := HB3.out.grown hg4 HB3.out.size (fun j hj => (HR3.out.lt j hj).1)
        have HS4 : Hid (Lies .u8 w4 p2 B) := by obtain ⟨p', x', h1, h2, _⟩ := row_sh2 HO4.out; simp only [Value.slice.injEq] at h1; obtain ⟨rfl, _, rfl⟩ := h1; exact h2
        clear hr4 hg4 hf4 HR3 HO3 HB3 HS3 HSU HO4
        go_wp2_with (at_builtin; refine append_at _ rfl _ _ 35 rfl w.heap.size 5 i0 (.int .u8 0) 1 Tryz.underlying35 hinf hz0 hz1 hz2 rfl _ _ _ rfl HR4.out .u8 _ _ _ B rfl HZN.out HQL.out HS4.out (by unfold maxLen; omega) (by omega) HB4.out.size ?_; intro v5 w5 ho5 hg5 hf5)
        have HR5 : Hid (w5.ownsRow w.heap.size 5 1 v5 ((l.take (k + 1)).flatMap frB).length (((l.take (k + 1)).flatMap frB).map (Value.int .u8))) := by
          unfold Hid
          rw [HTK.out, List.map_append]
          have : (A ++ wd4 (q : Int) ++ wd4 (X : Int) ++ B).length = m + 4 + 4 + q := by simp [wd4, HMA.out, HQL.out]; omega
          rw [this]
          exact ho5
        have HB5 : Hid (Below w.heap.size w w5) := HB4.out.grown hg5 HB4.out.size (fun j hj => (HR4.out.lt j hj).1)
        clear ho5 hg5 hf5
        go_wp2
        go_roundw
        case rel => exact ⟨k + 1, by omega, by go_num, HOK2.out, HR5.out, HB5.out⟩
        case measure => simp [intOf]; omega
    · obtain rfl : k = n := by omega
      have HE : Hid (fmR l = (l.flatMap frB, 0)) := fmR_ok (by have := HOK.out; rw [List.take_of_length_le (by rw [HL.out]; exact Nat.le_refl _)] at this; exact this)
      have HR2 : Hid (wr.ownsRow w.heap.size 5 1 u4 (l.flatMap frB).length ((l.flatMap frB).map (Value.int .u8))) := by have := HRW.out; rw [List.take_of_length_le (by rw [HL.out]; exact Nat.le_refl _)] at this; exact this
      clear hok hrow hbw
      go_wp2
      refine bodyPost_ret (v := .tuple #[u4, .int .i64 0]) (by simp [results, Tryz.results83, go_sem]) rfl ?_
      show PrPost (fmR l) w _ _
      rw [HE.out]
      exact ⟨_, rfl, HR2.out, HBW.out⟩
end Go.Proofs.YtllhbhogfffedaaGreatDoor

namespace Go.Proofs.YtllhbhogfffedaaGreatDoor
open Go.RowKit
set_option linter.unusedVariables false
set_option linter.unusedSimpArgs false

/-- A box of no files. -/
def bx0 (r : Int) : Array Value := #[.slice none 0 0, .int .i64 r, .bool false, .int .i64 0, .bool false, .bool false]

set_option maxRecDepth 20000 in
theorem diskNew_any (w : World) : Calls Tryz.prog 7 #[.int .i64 1000] w fun e w' => e = .returned (.pointer (some ⟨w.heap.size + 1, 0, none⟩)) ∧ w' = (w.alloc (.cells (bx0 1000) 85)).alloc (.cells #[.pointer (some ⟨w.heap.size, 0, none⟩)] 87) := by
  go_enter Tryz.func7, Tryz.ntmps7
  go_wp2
  go_ret
  exact ⟨rfl, rfl⟩

set_option maxRecDepth 20000 in
theorem diskOf_any (w : World) (b x : Nat) (h : w.cell? ⟨b, 0, none⟩ = some (.pointer (some ⟨x, 0, none⟩))) : Calls Tryz.prog 13 #[.pointer (some ⟨b, 0, none⟩)] w fun e w' => e = .returned (.pointer (some ⟨w.heap.size, 0, none⟩)) ∧ w' = w.alloc (.cells #[.pointer (some ⟨x, 0, none⟩)] 102) := by
  go_enter Tryz.func13, Tryz.ntmps13
  go_wp2
  go_ret
  exact ⟨rfl, rfl⟩

set_option maxRecDepth 20000 in
theorem find_none (w : World) (b : Nat) (s : ByteArray) (h : w.cell? ⟨b, 0, none⟩ = some (.slice none 0 0)) : Calls Tryz.prog 59 #[.pointer (some ⟨b, 0, none⟩), .string s] w fun e w' => e = .returned (.int .i64 (-1)) ∧ w' = w := by
  go_enter Tryz.func59, Tryz.ntmps59
  go_wp2
  refine wp_loop_rounds 1 ?_
  rw [rounds_succ]
  go_wp2
  go_ret
  exact ⟨rfl, rfl⟩

set_option maxRecDepth 20000 in
theorem dread_none (w : World) (d x : Nat) (aN : Addr) (s : ByteArray) (hd : w.cell? ⟨d, 0, none⟩ = some (.pointer (some ⟨x, 0, none⟩))) (hf : w.cell? ⟨x, 0, none⟩ = some (.slice none 0 0)) (hw : w.cell? ⟨x, 5, none⟩ = some (.bool false)) (hN : w.cell? ⟨2, 0, none⟩ = some (.iface 218 (.pointer (some aN)))) :
    Calls Tryz.prog 74 #[.pointer (some ⟨d, 0, none⟩), .string s] w fun e w' => e = .returned (.tuple #[.slice none 0 0, .iface 218 (.pointer (some aN))]) ∧ Below w.heap.size w w' := by
  have HF := find_none w x s hf
  go_enter Tryz.func74, Tryz.ntmps74
  go_wp2_with (go_at_call 59; refine HF.mono ?_; rintro e w2 ⟨rfl, rfl⟩)
  go_region
  all_goals go_wp2
  all_goals refine bodyPost_ret (v := .tuple #[.slice none 0 0, .iface 218 (.pointer (some aN))]) (by simp [results, Tryz.results74, go_sem]) rfl ?_
  all_goals exact ⟨rfl, rfl, rfl, rfl, Nat.le_refl _, fun _ _ => rfl⟩

set_option maxRecDepth 20000 in
theorem jread_none (w : World) (d x : Nat) (aN : Addr) (h1s : 2 < w.heap.size) (hd : w.cell? ⟨d, 0, none⟩ = some (.pointer (some ⟨x, 0, none⟩))) (hf : w.cell? ⟨x, 0, none⟩ = some (.slice none 0 0)) (hw : w.cell? ⟨x, 5, none⟩ = some (.bool false)) (hN : w.cell? ⟨2, 0, none⟩ = some (.iface 218 (.pointer (some aN)))) :
    Calls Tryz.prog 40 #[.pointer (some ⟨d, 0, none⟩)] w fun e w' => e = .returned (.tuple #[.slice none 0 0, .nilIface]) ∧ Below w.heap.size w w' := by
  have HR := fun s => dread_none w d x aN s hd hf hw hN
  have HI := fun W => isSame7 aN W
  have HK : Hid (∀ W, Below w.heap.size w W → W.cell? ⟨2, 0, none⟩ = some (.iface 218 (.pointer (some aN)))) := fun W hb => (hb.cell (p := ⟨2, 0, none⟩) h1s).trans hN
  clear hd hf hw hN
  go_enter Tryz.func40, Tryz.ntmps40
  go_wp2_with (first
    | (go_at_call 74; refine (HR _).mono ?_; rintro e w2 ⟨rfl, hb2⟩; have kN := HK.out _ hb2)
    | (go_at_call 43; refine (HI _).mono ?_; rintro e w3 ⟨rfl, rfl⟩))
  refine bodyPost_ret (v := .tuple #[.slice none 0 0, .nilIface]) (by simp [results, Tryz.results40, go_sem]) rfl ?_
  exact ⟨rfl, hb2⟩

set_option maxRecDepth 20000 in
theorem remove_none (w : World) (d x : Nat) (aN : Addr) (s : ByteArray) (hds : d < w.heap.size) (hxs : x < w.heap.size) (h1s : 2 < w.heap.size) (hd : w.cell? ⟨d, 0, none⟩ = some (.pointer (some ⟨x, 0, none⟩))) (hf : w.cell? ⟨x, 0, none⟩ = some (.slice none 0 0)) (hw : w.cell? ⟨x, 5, none⟩ = some (.bool false)) (hN : w.cell? ⟨2, 0, none⟩ = some (.iface 218 (.pointer (some aN)))) :
    Calls Tryz.prog 73 #[.pointer (some ⟨d, 0, none⟩), .string s] w fun e w' => e = .returned (.iface 218 (.pointer (some aN))) ∧ Below w.heap.size w w' := by
  have HF := fun W (hb : Below w.heap.size w W) => find_none W x s (by rw [hb.cell hxs]; exact hf)
  have HB : Hid (Below w.heap.size w ((w.alloc (.cells #[.pointer (some ⟨d, 0, none⟩)] 46)).alloc (.cells #[.int .i64 (-1)] 3))) := ((Below.refl _ _).alloc (Nat.le_refl _) _).alloc (by simp) _
  have kN := (HB.out.cell (p := ⟨2, 0, none⟩) h1s).trans hN
  go_enter Tryz.func73, Tryz.ntmps73
  go_wp2_with (go_at_call 59; refine (HF _ ?_).mono ?_; rotate_left; rintro e w2 ⟨rfl, rfl⟩)
  · go_ret
    exact ⟨rfl, HB.out⟩
  · exact (Below.refl _ _).alloc (Nat.le_refl _) _

set_option maxRecDepth 20000 in
theorem removeRest_none (w : World) (d x : Nat) (aN : Addr) (hds : d < w.heap.size) (hxs : x < w.heap.size) (h1s : 2 < w.heap.size) (hd : w.cell? ⟨d, 0, none⟩ = some (.pointer (some ⟨x, 0, none⟩))) (hf : w.cell? ⟨x, 0, none⟩ = some (.slice none 0 0)) (hw : w.cell? ⟨x, 5, none⟩ = some (.bool false)) (hN : w.cell? ⟨2, 0, none⟩ = some (.iface 218 (.pointer (some aN)))) :
    Calls Tryz.prog 39 #[.pointer (some ⟨d, 0, none⟩)] w fun e w' => e = .returned .nilIface ∧ Below w.heap.size w w' := by
  have HR := fun s => remove_none w d x aN s hds hxs h1s hd hf hw hN
  have HI := fun W => isSame7 aN W
  have HK : Hid (∀ W, Below w.heap.size w W → W.cell? ⟨2, 0, none⟩ = some (.iface 218 (.pointer (some aN)))) := fun W hb => (hb.cell (p := ⟨2, 0, none⟩) h1s).trans hN
  clear hd hf hw hN
  go_enter Tryz.func39, Tryz.ntmps39
  go_wp2_with (first
    | (go_at_call 73; refine (HR _).mono ?_; rintro e w2 ⟨rfl, hb2⟩; have kN := HK.out _ hb2)
    | (go_at_call 43; refine (HI _).mono ?_; rintro e w3 ⟨rfl, rfl⟩))
  go_ret
  exact ⟨rfl, hb2⟩
end Go.Proofs.YtllhbhogfffedaaGreatDoor

namespace Go.Proofs.YtllhbhogfffedaaGreatDoor
open Go.RowKit
set_option linter.unusedVariables false
set_option linter.unusedSimpArgs false

/-- A journal's cells. -/
def Jn (w : World) (j d : Nat) (n m : Int) : Prop := w.cell? ⟨j, 0, none⟩ = some (.pointer (some ⟨d, 0, none⟩)) ∧ w.cell? ⟨j, 1, none⟩ = some (.int .i64 n) ∧ w.cell? ⟨j, 2, none⟩ = some (.int .i64 m) ∧ w.cell? ⟨j, 3, none⟩ = some (.bool false)

/-- Scan of nothing. -/
theorem scan_nil (w : World) (hT : Tab6 w) : Calls Tryz.prog 41 #[.slice none 0 0] w fun e w' => ∃ a c, e = .returned (.tuple #[.slice a 0 c, .int .i64 0]) ∧ Below w.heap.size w w' := by
  refine (scan_any none [] 0 0 w hT (fun z hz => by cases hz) rfl (Nat.le_refl _) (by omega) (by omega) (.inl rfl) (.inl ⟨rfl, rfl⟩)).mono ?_
  rintro e w' ⟨v, os, rfl, hr, hm, hb⟩
  obtain ⟨a, c, rfl, _⟩ := hr.rlin
  have : os = [] := List.map_eq_nil_iff.mp hm
  subst this
  exact ⟨a, c, rfl, hb⟩

set_option maxRecDepth 20000 in
theorem used_none (w : World) (b : Nat) (h : w.cell? ⟨b, 0, none⟩ = some (.slice none 0 0)) : Calls Tryz.prog 56 #[.pointer (some ⟨b, 0, none⟩)] w fun e w' => e = .returned (.int .i64 0) ∧ w' = w := by
  go_enter Tryz.func56, Tryz.ntmps56
  go_wp2
  refine wp_loop_rounds 1 ?_
  rw [rounds_succ]
  go_wp2
  go_ret
  exact ⟨rfl, rfl⟩

set_option maxRecDepth 20000 in
theorem heard_nil (w : World) (j : Nat) (aD : Addr) (hD : w.cell? ⟨0, 0, none⟩ = some (.iface 218 (.pointer (some aD)))) : Calls Tryz.prog 46 #[.pointer (some ⟨j, 0, none⟩), .nilIface] w fun e w' => e = .returned .nilIface ∧ w' = w := by
  have HI := isNil7 aD w
  go_enter Tryz.func46, Tryz.ntmps46
  go_wp2_with (go_at_call 43; refine HI.mono ?_; rintro e w3 ⟨rfl, rfl⟩)
  go_ret
  exact ⟨rfl, rfl⟩

set_option maxRecDepth 20000 in
theorem jsize_any (w : World) (j d : Nat) (n m : Int) (h : Jn w j d n m) : Calls Tryz.prog 19 #[.pointer (some ⟨j, 0, none⟩)] w fun e w' => e = .returned (.int .i64 n) ∧ w' = w := by
  obtain ⟨h0, h1, h2, h3⟩ := h
  go_enter Tryz.func19, Tryz.ntmps19
  go_wp2
  go_ret
  exact ⟨rfl, rfl⟩
set_option maxRecDepth 20000 in
theorem jloose_any (w : World) (j d : Nat) (n m : Int) (h : Jn w j d n m) : Calls Tryz.prog 20 #[.pointer (some ⟨j, 0, none⟩)] w fun e w' => e = .returned (.int .i64 m) ∧ w' = w := by
  obtain ⟨h0, h1, h2, h3⟩ := h
  go_enter Tryz.func20, Tryz.ntmps20
  go_wp2
  go_ret
  exact ⟨rfl, rfl⟩

set_option maxRecDepth 20000 in
/-- frames of records that may be. -/
theorem frames_ok (w : World) (j d : Nat) (nn mm : Int) (l : List Rc) (a : Option Addr) (n c : Nat) (hT : Tab6 w) (hl : l.length = n) (hn : n ≤ 1048576) (ha : RLin w a l) (hd : ∀ r ∈ l, Bytey r.data) (hm : ∀ r ∈ l, mayB6 r = true) (h : Jn w j d nn mm) :
    Calls Tryz.prog 45 #[.pointer (some ⟨j, 0, none⟩), .slice a n c] w fun e w' => ∃ v, e = .returned (.tuple #[v, .nilIface]) ∧ w'.ownsRow w.heap.size 5 1 v (l.flatMap frB).length ((l.flatMap frB).map (Value.int .u8)) ∧ Below w.heap.size w w' := by
  have HF := frame_any l a n c w hT hl hn ha hd
  rw [fmR_ok hm] at HF
  obtain ⟨h0, h1, h2, h3⟩ := h
  clear hT hl ha hd hm
  go_enter Tryz.func45, Tryz.ntmps45
  go_wp2_with (go_at_call 83; refine HF.mono ?_; rintro e w2 ⟨v2, rfl, ho2, hb2⟩)
  refine bodyPost_ret (v := .tuple #[v2, .nilIface]) (by simp [results, Tryz.results45, go_sem]) rfl ?_
  exact ⟨_, rfl, ho2, hb2⟩
end Go.Proofs.YtllhbhogfffedaaGreatDoor

namespace Go.Proofs.YtllhbhogfffedaaGreatDoor
open Go.RowKit
set_option linter.unusedVariables false
set_option linter.unusedSimpArgs false

/-- A box of one file: its name, its bytes' slice, how many are safe. -/
def Bx1 (w : World) (x F cp : Nat) (s : ByteArray) (a : Option Addr) (n c : Nat) (k : Int) : Prop :=
  w.cell? ⟨x, 0, none⟩ = some (.slice (some ⟨F, 0, none⟩) 1 cp) ∧ w.cell? ⟨F, 0, none⟩ = some (.string s) ∧ w.cell? ⟨F, 1, none⟩ = some (.slice a n c) ∧ w.cell? ⟨F, 2, none⟩ = some (.int .i64 k)

set_option maxRecDepth 20000 in
theorem find_one (w : World) (x F cp : Nat) (s : ByteArray) (a : Option Addr) (n c : Nat) (k : Int) (h : Bx1 w x F cp s a n c k) : Calls Tryz.prog 59 #[.pointer (some ⟨x, 0, none⟩), .string s] w fun e w' => e = .returned (.int .i64 0) ∧ w' = w := by
  obtain ⟨h0, h1, h2, h3⟩ := h
  go_enter Tryz.func59, Tryz.ntmps59
  go_wp2
  refine wp_loop_rounds 1 ?_
  rw [rounds_succ]
  go_wp2
  go_ret
  exact ⟨rfl, rfl⟩

set_option maxRecDepth 20000 in
theorem syn1_one (w : World) (D I d x F cp : Nat) (s : ByteArray) (a : Option Addr) (n c : Nat) (k : Int) (h : Bx1 w x F cp s a n c k) (hD : w.cell? ⟨D, 0, none⟩ = some (.pointer (some ⟨d, 0, none⟩))) (hI : w.cell? ⟨I, 0, none⟩ = some (.int .i64 0)) (hd : w.cell? ⟨d, 0, none⟩ = some (.pointer (some ⟨x, 0, none⟩))) (hz : w.frozen? ⟨F, 2, none⟩ = false) :
    Calls Tryz.prog 60 #[.pointer (some ⟨D, 0, none⟩), .pointer (some ⟨I, 0, none⟩)] w fun e w' => (∃ v, e = .returned v) ∧ w' = (w.setCell ⟨F, 2, none⟩ (.int .i64 n)).drew := by
  obtain ⟨h0, h1, h2, h3⟩ := h
  go_enter Tryz.func60, Tryz.ntmps60
  go_wp2
  go_region
  refine bodyPost_end (v := .tuple #[]) (by simp [results, Tryz.results60, go_sem]) rfl ?_
  exact ⟨⟨_, rfl⟩, rfl⟩
end Go.Proofs.YtllhbhogfffedaaGreatDoor

namespace Go.Proofs.YtllhbhogfffedaaGreatDoor
open Go.RowKit
set_option linter.unusedVariables false
set_option linter.unusedSimpArgs false

set_option maxRecDepth 20000 in
/-- An act of a disk that is not armed: appending. -/
theorem act_app (w : World) (x : Nat) (p q r : Value) (Q : World → Prop) (h2 : w.cell? ⟨x, 2, none⟩ = some (.bool false)) (hc : Calls Tryz.prog 58 #[p, q, r] w fun e w' => (∃ v, e = .returned v) ∧ Q w') :
    Calls Tryz.prog 57 #[.pointer (some ⟨x, 0, none⟩), .func (.func 58) #[] #[p, q, r]] w fun e w' => e = .returned .nilIface ∧ Q w' := by
  go_enter Tryz.func57, Tryz.ntmps57
  go_wp2_with (go_at_call 58; refine hc.mono ?_; rintro e w3 ⟨⟨v3, rfl⟩, hq3⟩)
  go_ret
  exact ⟨rfl, hq3⟩

set_option maxRecDepth 20000 in
/-- An act of a disk that is not armed: syncing. -/
theorem act_syn (w : World) (x : Nat) (p q : Value) (Q : World → Prop) (h2 : w.cell? ⟨x, 2, none⟩ = some (.bool false)) (hc : Calls Tryz.prog 60 #[p, q] w fun e w' => (∃ v, e = .returned v) ∧ Q w') :
    Calls Tryz.prog 57 #[.pointer (some ⟨x, 0, none⟩), .func (.func 60) #[] #[p, q]] w fun e w' => e = .returned .nilIface ∧ Q w' := by
  go_enter Tryz.func57, Tryz.ntmps57
  go_wp2_with (go_at_call 60; refine hc.mono ?_; rintro e w3 ⟨⟨v3, rfl⟩, hq3⟩)
  go_ret
  exact ⟨rfl, hq3⟩
end Go.Proofs.YtllhbhogfffedaaGreatDoor
