import Derived.Test.YtcfodcioeefbeaaDoorBkGrn
import Derived.Test.YtcfodcioeefbeaaDoorStp
namespace Go.Proofs.YtcfodcioeefbeaaDoor
open Go.RowKit

set_option maxHeartbeats 400000 in
theorem btwn_any (n lo hi : Int) (w : World) :
    Calls Tryd.prog 18 #[.int .i64 n, .int .i64 lo, .int .i64 hi] w fun e w' => e = .returned (.bool (btw n lo hi)) ∧ w = w' := by
  have HB : Hid (btw n lo hi = decide (lo ≤ n ∧ n ≤ hi)) := rfl
  generalize btw n lo hi = q at *
  go_enter Tryd.func18, Tryd.ntmps18
  by_cases h1 : lo ≤ n
  · by_cases h2 : n ≤ hi
    · go_wp2
      go_ret
      exact ⟨by rw [HB.out]; simp [h1, h2], rfl⟩
    · go_wp2
      go_ret
      exact ⟨by rw [HB.out]; simp [h2], rfl⟩
  · go_wp2
    go_ret
    exact ⟨by rw [HB.out, decide_eq_false (by omega)]; rfl, rfl⟩

theorem btwn_v (n lo hi : Int) (q : Bool) (h : btw n lo hi = q) (w : World) : Calls Tryd.prog 18 #[.int .i64 n, .int .i64 lo, .int .i64 hi] w fun e w' => e = .returned (.bool q) ∧ w = w' := by
  have := btwn_any n lo hi w; rw [h] at this; exact this
theorem pcl_btw (k : Pk) : pclB k = (btw k.srv 0 4611686018427387903 && (btw k.size 1 65536 && (btw k.red 0 k.size && (btw k.mtu 80 4096 && btw k.every 0 65536)))) := by
  simp only [pclB, btw, ← Bool.decide_and, decide_eq_decide]
  omega
theorem ses_btw (k : Pk) : sesB k = (btw k.org 1 4611686018427387903 && btw k.num 1 4611686018427387902) := by
  simp only [sesB, btw, ← Bool.decide_and, decide_eq_decide]
  omega

set_option maxHeartbeats 1000000 in
theorem parcel_any (k : Pk) (w : World) :
    Calls Tryd.prog 24 #[.agg #[.int .i64 k.srv, .int .i64 k.size, .int .i64 k.red, .int .i64 k.mtu, .int .i64 k.every]] w fun e w' => e = .returned (.bool (pclB k)) ∧ Below w.heap.size w w' := by
  have HB : Hid (Below w.heap.size w (w.alloc (.cells #[.int .i64 k.srv, .int .i64 k.size, .int .i64 k.red, .int .i64 k.mtu, .int .i64 k.every] 25))) := (Below.refl _ _).alloc (Nat.le_refl _) _
  rw [pcl_btw]
  obtain ⟨q1, h1⟩ : ∃ q, btw k.srv 0 4611686018427387903 = q := ⟨_, rfl⟩
  obtain ⟨q2, h2⟩ : ∃ q, btw k.size 1 65536 = q := ⟨_, rfl⟩
  obtain ⟨q3, h3⟩ : ∃ q, btw k.red 0 k.size = q := ⟨_, rfl⟩
  obtain ⟨q4, h4⟩ : ∃ q, btw k.mtu 80 4096 = q := ⟨_, rfl⟩
  obtain ⟨q5, h5⟩ : ∃ q, btw k.every 0 65536 = q := ⟨_, rfl⟩
  rw [h1, h2, h3, h4, h5]
  have C1 := btwn_v _ _ _ _ h1
  have C2 := btwn_v _ _ _ _ h2
  have C3 := btwn_v _ _ _ _ h3
  have C4 := btwn_v _ _ _ _ h4
  have C5 := btwn_v _ _ _ _ h5
  clear h1 h2 h3 h4 h5
  go_enter Tryd.func24, Tryd.ntmps24
  go_wp2_with fail
  refine (C1 _).mono ?_
  rintro e w' ⟨rfl, rfl⟩
  cases q1
  · go_wp2
    go_ret
    exact ⟨rfl, HB.out⟩
  go_wp2_with fail
  refine (C2 _).mono ?_
  rintro e w' ⟨rfl, rfl⟩
  cases q2
  · go_wp2
    go_ret
    exact ⟨rfl, HB.out⟩
  go_wp2_with fail
  refine (C3 _).mono ?_
  rintro e w' ⟨rfl, rfl⟩
  cases q3
  · go_wp2
    go_ret
    exact ⟨rfl, HB.out⟩
  go_wp2_with fail
  refine (C4 _).mono ?_
  rintro e w' ⟨rfl, rfl⟩
  cases q4
  · go_wp2
    go_ret
    exact ⟨rfl, HB.out⟩
  go_wp2_with fail
  refine (C5 _).mono ?_
  rintro e w' ⟨rfl, rfl⟩
  cases q5
  · go_wp2
    go_ret
    exact ⟨rfl, HB.out⟩
  go_wp2
  go_ret
  exact ⟨rfl, HB.out⟩

set_option maxHeartbeats 1000000 in
theorem fault_any (k : Pk) (w : World) :
    Calls Tryd.prog 17 #[.agg (knC k)] w fun e w' => e = .returned (.int .i64 (if sesB k = false then 1 else if pclB k = false then 40 else 0)) ∧ Below w.heap.size w w' := by
  have HB : Hid (Below w.heap.size w (w.alloc (.cells (knC k) 71))) := (Below.refl _ _).alloc (Nat.le_refl _) _
  rw [ses_btw]
  obtain ⟨q1, h1⟩ : ∃ q, btw k.org 1 4611686018427387903 = q := ⟨_, rfl⟩
  obtain ⟨q2, h2⟩ : ∃ q, btw k.num 1 4611686018427387902 = q := ⟨_, rfl⟩
  rw [h1, h2]
  have C1 := btwn_v _ _ _ _ h1
  have C2 := btwn_v _ _ _ _ h2
  have C3 := parcel_any k
  obtain ⟨q3, h3⟩ : ∃ q, pclB k = q := ⟨_, rfl⟩
  rw [h3] at C3 ⊢
  clear h1 h2 h3
  go_enter Tryd.func17, Tryd.ntmps17
  cases q1
  · go_wp2_with fail
    refine (C1 _).mono ?_
    rintro e w' ⟨rfl, rfl⟩
    go_wp2
    go_ret
    exact ⟨rfl, HB.out⟩
  cases q2
  · go_wp2_with fail
    refine (C1 _).mono ?_
    rintro e w' ⟨rfl, rfl⟩
    go_wp2_with fail
    refine (C2 _).mono ?_
    rintro e w' ⟨rfl, rfl⟩
    go_wp2
    go_ret
    exact ⟨rfl, HB.out⟩
  cases q3
  all_goals (
    go_wp2_with fail
    refine (C1 _).mono ?_
    rintro e w' ⟨rfl, rfl⟩
    go_wp2_with fail
    refine (C2 _).mono ?_
    rintro e w' ⟨rfl, rfl⟩
    go_wp2_with fail
    refine (C3 _).mono ?_
    rintro e w3 ⟨rfl, hb3⟩
    have HB3 : Hid (Below w.heap.size w w3) := HB.out.trans (hb3.mono (by simp))
    clear hb3
    go_wp2
    go_ret
    exact ⟨rfl, HB3.out⟩)

end Go.Proofs.YtcfodcioeefbeaaDoor

namespace Go.Proofs.YtcfodcioeefbeaaDoor
open Go.RowKit

def CutPost (r : List Pc × Int) (w : World) (e : Ending) (w' : World) : Prop := ∃ v, e = .returned (.tuple #[v, .int .i64 r.2]) ∧ POwn w' w.heap.size v r.1 ∧ Below w.heap.size w w'

theorem cutL_len {k : Pk} (ok : k.Ok) (base : Int) : (redG k k.red.toNat 0 base 0).length ≤ 65536 ∧ (grnG k (k.size - k.red).toNat k.red).length ≤ 65536 := by
  have hl : ∀ f at' b p, (redG k f at' b p).length ≤ f := by
    intro f
    induction f with
    | zero => intros; simp [redG]
    | succ f ih =>
      intro at' b p
      rw [redG]
      split
      · split
        · simp only [List.length_cons]; have := ih (cPc k at' k.red (b + 1) 0).to (b + 1) 0; omega
        · simp only [List.length_cons]; have := ih (pPc k at' (k.red - 1)).to b (p + 1); omega
      · simp
  have hl2 : ∀ f at', (grnG k f at').length ≤ f := by
    intro f
    induction f with
    | zero => intros; simp [grnG]
    | succ f ih =>
      intro at'
      rw [grnG]
      split
      · simp only [List.length_cons]; have := ih (gPc k at').to; omega
      · simp
  have := hl k.red.toNat 0 base 0
  have := hl2 (k.size - k.red).toNat k.red
  have := ok.size; have := ok.red
  omega
theorem pc_one (l : List Pc) : ∀ u ∈ l.flatMap pcL, u.oneCell' = true := by
  intro u hu
  obtain ⟨x, _, hx⟩ := List.mem_flatMap.mp hu
  simp only [pcL, List.mem_cons, List.not_mem_nil, or_false] at hx
  rcases hx with rfl | rfl | rfl | rfl | rfl <;> rfl

set_option maxRecDepth 100000 in
set_option maxHeartbeats 4000000 in
theorem cut_any (k : Pk) (base : Int) (w : World) (hT : Tab w) :
    Calls Tryd.prog 10 #[.agg #[.int .i64 k.org, .int .i64 k.num], .agg #[.int .i64 k.srv, .int .i64 k.size, .int .i64 k.red, .int .i64 k.mtu, .int .i64 k.every], .int .i64 base] w (CutPost (cut k base) w) := by
  obtain ⟨i0, hi, hz0, hz1, hz2⟩ := info_parts Tryd.info_piece
  have HT : Hid (Tab w) := hT
  clear hT
  have HB1 : Hid (Below w.heap.size w (((w.alloc (.cells #[.int .i64 k.org, .int .i64 k.num] 23)).alloc (.cells #[.int .i64 k.srv, .int .i64 k.size, .int .i64 k.red, .int .i64 k.mtu, .int .i64 k.every] 25)).alloc (.cells (knC k) 71))) := (((Below.refl _ _).alloc (Nat.le_refl _) _).alloc (by simp) _).alloc (by simp; omega) _
  have HK1 : Hid ((((w.alloc (.cells #[.int .i64 k.org, .int .i64 k.num] 23)).alloc (.cells #[.int .i64 k.srv, .int .i64 k.size, .int .i64 k.red, .int .i64 k.mtu, .int .i64 k.every] 25)).alloc (.cells (knC k) 71)).heap[w.heap.size + 1 + 1]? = some (.cells (knC k) 71)) := by
    have := heap_alloc_new' ((w.alloc (.cells #[.int .i64 k.org, .int .i64 k.num] 23)).alloc (.cells #[.int .i64 k.srv, .int .i64 k.size, .int .i64 k.red, .int .i64 k.mtu, .int .i64 k.every] 25)) (.cells (knC k) 71)
    rw [World.size_alloc, World.size_alloc] at this; exact this
  have hf := fault_any k
  have HC : Hid (cut k base = if sesB k = false then ([], 1) else if pclB k = false then ([], 40) else if base < 0 ∨ 4611686018427387903 - 65536 < base then ([], 1) else (cutL k base, 0)) := rfl
  have HOK : Hid (sesB k = true → pclB k = true → k.Ok) := Pk.ok_of
  generalize cut k base = R at *
  obtain ⟨q1, h1⟩ : ∃ q, sesB k = q := ⟨_, rfl⟩
  obtain ⟨q2, h2⟩ : ∃ q, pclB k = q := ⟨_, rfl⟩
  rw [h1, h2] at hf HC HOK
  clear h1 h2
  go_enter Tryd.func10, Tryd.ntmps10
  go_wp2_with fail
  refine (hf _).mono ?_
  rintro e w2 ⟨rfl, hb2⟩
  have HB2 : Hid (Below w.heap.size w w2) := HB1.out.trans (hb2.mono (by simp; omega))
  have HK2 : Hid (w2.heap[w.heap.size + 1 + 1]? = some (.cells (knC k) 71)) := (hb2.block _ (by simp)).trans HK1.out
  clear hf hb2 HB1 HK1
  cases q1 with
  | false =>
    have hR : R = ([], 1) := HC.out
    subst hR
    go_wp2
    go_ret2
    exact ⟨_, rfl, ⟨rfl, .inl ⟨rfl, rfl⟩⟩, HB2.out⟩
  | true =>
    cases q2 with
    | false =>
      have hR : R = ([], 40) := HC.out
      subst hR
      go_wp2
      go_ret2
      exact ⟨_, rfl, ⟨rfl, .inl ⟨rfl, rfl⟩⟩, HB2.out⟩
    | true =>
      have OK : Hid k.Ok := HOK.out rfl rfl
      have hbt := btwn_any base 0 4611686018427322367
      by_cases hbs : base < 0 ∨ 4611686018427387903 - 65536 < base
      · have hR : R = ([], 1) := by have := HC.out; simp only [Bool.true_eq_false, if_false] at this; rw [if_pos hbs] at this; exact this
        rw [show btw base 0 4611686018427322367 = false from by unfold btw; rw [decide_eq_false]; omega] at hbt
        subst hR
        go_wp2_with fail
        refine (hbt _).mono ?_
        rintro e w' ⟨rfl, rfl⟩
        go_wp2
        go_ret2
        exact ⟨_, rfl, ⟨rfl, .inl ⟨rfl, rfl⟩⟩, HB2.out⟩
      · have hR : R = (cutL k base, 0) := by have := HC.out; simp only [Bool.true_eq_false, if_false] at this; rw [if_neg hbs] at this; exact this
        rw [show btw base 0 4611686018427322367 = true from by unfold btw; rw [decide_eq_true]; omega] at hbt
        have hb0 : 0 ≤ base ∧ base ≤ 4611686018427322367 := by omega
        have hlen := cutL_len OK.out base
        have HRd : Hid (∀ W, Below w.heap.size w W → Calls Tryd.prog 19 #[.agg (knC k), .int .i64 base] W (PsPost (redG k k.red.toNat 0 base 0) W)) := fun W hb => red_any OK.out base hb0 W (HT.out.below hb (tab_pos HT.out))
        have HGr : Hid (∀ W, Below w.heap.size w W → Calls Tryd.prog 20 #[.agg (knC k)] W (PsPost (grnG k (k.size - k.red).toNat k.red) W)) := fun W hb => green_any OK.out W (HT.out.below hb (tab_pos HT.out))
        subst hR
        have HCL : Hid (cutL k base = redG k k.red.toNat 0 base 0 ++ grnG k (k.size - k.red).toNat k.red) := rfl
        generalize redG k k.red.toNat 0 base 0 = A at *
        generalize grnG k (k.size - k.red).toNat k.red = B at *
        have c0 : w2.cell? ⟨w.heap.size + 1 + 1, 0, none⟩ = some (.int .i64 k.org) := cell_of_row _ _ 0 _ _ _ HK2.out
        have c1 : w2.cell? ⟨w.heap.size + 1 + 1, 1, none⟩ = some (.int .i64 k.num) := cell_of_row _ _ 1 _ _ _ HK2.out
        have c2 : w2.cell? ⟨w.heap.size + 1 + 1, 2, none⟩ = some (.int .i64 k.srv) := cell_of_row _ _ 2 _ _ _ HK2.out
        have c3 : w2.cell? ⟨w.heap.size + 1 + 1, 3, none⟩ = some (.int .i64 k.size) := cell_of_row _ _ 3 _ _ _ HK2.out
        have c4 : w2.cell? ⟨w.heap.size + 1 + 1, 4, none⟩ = some (.int .i64 k.red) := cell_of_row _ _ 4 _ _ _ HK2.out
        have c5 : w2.cell? ⟨w.heap.size + 1 + 1, 5, none⟩ = some (.int .i64 k.mtu) := cell_of_row _ _ 5 _ _ _ HK2.out
        have c6 : w2.cell? ⟨w.heap.size + 1 + 1, 6, none⟩ = some (.int .i64 k.every) := cell_of_row _ _ 6 _ _ _ HK2.out
        have HKL : Hid (w.heap.size + 1 + 1 < w2.heap.size) := by obtain ⟨h, _⟩ := Array.getElem?_eq_some_iff.mp HK2.out; exact h
        clear HC HOK
        go_wp2_with fail
        refine (hbt _).mono ?_
        rintro e w' ⟨rfl, rfl⟩
        clear hbt
        go_wp2_with fail
        go_region_law (first
          | (go_simp
             go_at_call 19
             refine (HRd.out _ HB2.out.drew).mono ?_
             rintro e w3 ⟨v3, rfl, hown3, hb3⟩
             have HB3 : Hid (Below w.heap.size w w3) := HB2.out.drew.trans (hb3.mono HB2.out.size)
             have HO3 : Hid (POwn w3 w.heap.size v3 A) := hown3.weak HB2.out.size
             have hk3 : w3.heap[w.heap.size + 1 + 1]? = some (.cells (knC k) 71) := (hb3.block _ HKL.out).trans HK2.out
             have d0 : w3.cell? ⟨w.heap.size + 1 + 1, 0, none⟩ = some (.int .i64 k.org) := cell_of_row _ _ 0 _ _ _ hk3
             have d1 : w3.cell? ⟨w.heap.size + 1 + 1, 1, none⟩ = some (.int .i64 k.num) := cell_of_row _ _ 1 _ _ _ hk3
             have d2 : w3.cell? ⟨w.heap.size + 1 + 1, 2, none⟩ = some (.int .i64 k.srv) := cell_of_row _ _ 2 _ _ _ hk3
             have d3 : w3.cell? ⟨w.heap.size + 1 + 1, 3, none⟩ = some (.int .i64 k.size) := cell_of_row _ _ 3 _ _ _ hk3
             have d4 : w3.cell? ⟨w.heap.size + 1 + 1, 4, none⟩ = some (.int .i64 k.red) := cell_of_row _ _ 4 _ _ _ hk3
             have d5 : w3.cell? ⟨w.heap.size + 1 + 1, 5, none⟩ = some (.int .i64 k.mtu) := cell_of_row _ _ 5 _ _ _ hk3
             have d6 : w3.cell? ⟨w.heap.size + 1 + 1, 6, none⟩ = some (.int .i64 k.every) := cell_of_row _ _ 6 _ _ _ hk3
             clear hown3 hb3 hk3)
          | (go_simp
             go_at_call 20
             refine (HGr.out _ HB3.out).mono ?_
             rintro e w4 ⟨v4, rfl, hown4, hb4⟩
             have HB4 : Hid (Below w.heap.size w w4) := HB3.out.trans (hb4.mono HB3.out.size)
             have HO4 : Hid (w4.ownsRow w.heap.size 56 5 v3 A.length (A.flatMap pcL)) := own_below HO3.out hb4
             have HO5 : Hid (w4.ownsRow w3.heap.size 56 5 v4 B.length (B.flatMap pcL)) := hown4
             clear hown4 hb4)
          | (refine step_append_row rfl (.tmp 23) (.tmp 25) 49 rfl w.heap.size w3.heap.size 56 i0 (.agg pz) 5 40 Tryd.underlying49 hi hz0 hz1 hz2 rfl (by decide) v3 A.length (A.flatMap pcL) (by simp [Act.eval]) HO4.out v4 B.length (B.flatMap pcL) (by simp [Act.eval]) HO5.out (pc_one B) (by unfold maxLen; omega) (by omega) HB4.out.size ?_
             intro v5 w5 ho5 hg5
             have HO6 : Hid (POwn w5 w.heap.size v5 (A ++ B)) := by unfold Hid POwn; rw [List.flatMap_append, List.length_append]; exact ho5
             have HB5 : Hid (Below w.heap.size w w5) := HB4.out.grown hg5 HB4.out.size (fun r hr => (row_ge HO4.out r hr).1)
             clear ho5 hg5))
        all_goals (
          go_wp2
          go_ret2
          exact ⟨v5, by simp [Act.put], by show POwn w5 w.heap.size v5 (cutL k base); rw [HCL.out]; exact HO6.out, HB5.out⟩)

end Go.Proofs.YtcfodcioeefbeaaDoor
