import Derived.Test.YtnclfoljfnfglaiTmF2
import Derived.Test.YtnclfoljfnfglaiTmSrf
namespace Go.Proofs.Ytnclfoljfnfglai
open Go.RowKit Go.Maps
set_option linter.unusedVariables false

/-! ## The reference's Tick: what is left, and what ran out, in the list's own order -/
theorem tick_step {R : Tl} {Hs : List Int} {j : Nat} {x : Kx × Int} (hx : R[j]? = some x) : tickT (R.take (j + 1)) Hs = tickT (R.take j) Hs ++ (if x.1.1 ∈ Hs then [x] else if x.2 = 1 then [] else [(x.1, x.2 - 1)]) := by
  unfold tickT
  rw [List.take_add_one, hx, List.filter_append, List.map_append]
  congr 1
  simp only [Option.toList_some, List.filter_cons, List.filter_nil]
  by_cases h1 : x.1.1 ∈ Hs
  · simp [h1]
  · by_cases h2 : x.2 = 1
    · simp [h1, h2]
    · simp [h1, h2]
theorem out_step {R : Tl} {Hs : List Int} {j : Nat} {x : Kx × Int} (hx : R[j]? = some x) : outS (R.take (j + 1)) Hs = outS (R.take j) Hs ++ (if x.2 = 1 ∧ x.1.1 ∉ Hs then [x.1] else []) := by
  unfold outS
  rw [List.take_add_one, hx, List.filter_append, List.map_append]
  congr 1
  simp only [Option.toList_some, List.filter_cons, List.filter_nil, decide_eq_true_eq]
  split <;> rfl

set_option maxHeartbeats 16000000 in
set_option maxRecDepth 100000 in
theorem tick2_any (pr : Nat) (Fp : Nat → Prop) (R : Tl) (Hs : List Int) (w : World) (h : Rf w pr Fp R Hs) (hl : R.length < 2199023255552) (hhl : Hs.length < 2199023255552) (hw : ∀ x ∈ R, 1 ≤ x.2 ∧ x.2 ≤ 1048576) :
    Calls Try.prog 49 #[.pointer (some ⟨pr, 0, none⟩)] w fun e w' => ∃ v, e = .returned v ∧ KR w' w.heap.size v (outS R Hs) ∧ Rf w' pr (fun g => grF Fp w w' g ∧ v.ownBlock ≠ some g) (tickT R Hs) Hs ∧ Kq (fun g => g = pr ∨ Fp g) w w' := by
  have HR : Hid (Rf w pr Fp R Hs) := h
  obtain ⟨m, hm⟩ : ∃ m, R.length = m := ⟨_, rfl⟩
  have HM : Hid (R.length = m) := hm
  have HWf : Hid (∀ x ∈ R, 1 ≤ x.2 ∧ x.2 ≤ 1048576) := hw
  rw [hm] at hl
  have hlt := h.lt
  obtain ⟨i0, hi0, hz0, hz1, hz2⟩ := info_parts Try.pinfo_timer
  obtain ⟨j0, hj0, hy0, hy1, hy2⟩ := info_parts Try.pinfo_key
  clear h hw hm
  go_enter Try.func49, Try.ntmps49
  go_wp2
  go_loopw [3, 4, 5] (fun u3 u4 v wr => ∃ j : Nat, v = .int .i64 j ∧ j ≤ m ∧ TR wr w.heap.size u3 (tickT (R.take j) Hs) ∧ KR wr w.heap.size u4 (outS (R.take j) Hs) ∧ (∀ g, u3.ownBlock = some g → u4.ownBlock ≠ some g) ∧ Below w.heap.size w wr) (fun _ _ v _ => m - (intOf v).toNat)
  case atStart => exact ⟨0, rfl, by omega, tr_nil _ _, World.ownsRow_nil _ _ _ _, fun g hg => by simp [Value.ownBlock] at hg, Below.refl _ _⟩
  case round =>
    obtain ⟨j, rfl, hj, htr, hkr, hne, hbr⟩ := hrel
    have HTr : Hid (TR wr w.heap.size u3 (tickT (R.take j) Hs)) := htr
    have HKr : Hid (KR wr w.heap.size u4 (outS (R.take j) Hs)) := hkr
    have HNe : Hid (∀ g, u3.ownBlock = some g → u4.ownBlock ≠ some g) := hne
    have HBr : Hid (Below w.heap.size w wr) := hbr
    clear htr hkr hne hbr
    have hRr : Rf wr pr Fp R Hs := HR.out.keep (S := fun _ => False) (Kq.of_below HBr.out) (fun _ h => h.elim)
    have HRr : Hid (Rf wr pr Fp R Hs) := hRr
    obtain ⟨vl, vh, h1, h2, _⟩ := hRr.ex
    obtain ⟨al, cl, rfl⟩ := h2.shape
    rw [HM.out] at h1 h2
    have e5 : wr.cell? ⟨pr, 0, none⟩ = some (.slice al m cl) := by simp [World.cell?, h1]
    have fz5 : wr.frozen? ⟨pr, 0, none⟩ = false := frozen_of_row wr pr 0 _ _ h1
    have HT2 : Hid (TR wr (pr + 1) (.slice al m cl) R) := h2
    have hll : (tickT (R.take j) Hs).length ≤ j := Nat.le_trans (tickT_len _ _) (by rw [List.length_take]; exact Nat.min_le_left _ _)
    have hol : (outS (R.take j) Hs).length ≤ j := by
      unfold outS
      rw [List.length_map]
      exact Nat.le_trans (List.length_filter_le _ _) (by rw [List.length_take]; exact Nat.min_le_left _ _)
    clear hRr h1 h2
    by_cases hjm : j = m
    · subst hjm
      have hz : ¬ (j : Int) < (j : Int) := by omega
      have htk : R.take j = R := by rw [← HM.out, List.take_length]
      rw [htk] at HTr HKr
      obtain ⟨a3, c3, hu3⟩ := HTr.out.shape
      obtain ⟨n3, hn3⟩ : ∃ n, List.length (tickT R Hs) = n := ⟨_, rfl⟩
      rw [hn3] at hu3
      subst hu3
      have hst := HR.out.setLq (Fq := fun g => grF Fp w (wr.setCell ⟨pr, 0, none⟩ (.slice a3 n3 c3)) g ∧ u4.ownBlock ≠ some g) HBr.out HTr.out (fun g hg hl => ⟨.inl hg, fun e => by have := (World.ownsRow.lt HKr.out g e).1; omega⟩) (fun g hg hl => ⟨.inr ⟨(World.ownsRow.lt HTr.out g hg).1, by simpa using hl⟩, HNe.out g hg⟩)
      have K1 : Kq (· = pr) wr (wr.setCell ⟨pr, 0, none⟩ (.slice a3 n3 c3)) := (Kq.refl _ _).setC ⟨pr, 0, none⟩ _ (.inl rfl)
      have hko := HKr.out.keep K1 (fun g hg e => by have e' : g = pr := e; have := (World.ownsRow.lt HKr.out g hg).1; omega)
      have HSt : Hid _ := hst
      have HKo : Hid _ := hko
      clear hst hko htk K1 hn3
      go_wp2
      go_ret
      exact ⟨_, rfl, HKo.out, HSt.out.1, HSt.out.2⟩
    · have hz : (j : Int) < (m : Int) := by omega
      have hwj : IntKind.i64.wrap ((j : Int) + 1) = (j : Int) + 1 := by rw [IntKind.wrap_i64]; omega
      obtain ⟨⟨x, c⟩, hx⟩ : ∃ x, R[j]? = some x := ⟨_, List.getElem?_eq_getElem (by rw [HM.out]; omega)⟩
      have hcx := HWf.out _ (List.mem_of_getElem? hx)
      obtain ⟨gk, capk, ek, _, _⟩ := HT2.out.some (by rw [HM.out]; omega)
      obtain ⟨rfl, hmm, rfl⟩ : al = some ⟨gk, 0, none⟩ ∧ m = R.length ∧ cl = capk := by simpa using ek
      obtain ⟨q0, q1, q2, q3, q4, q5⟩ := HT2.out.cells hx
      have hsl := tick_step (Hs := Hs) hx
      have hso := out_step (Hs := Hs) hx
      obtain ⟨x0, x1, x2, x3, x4⟩ := x
      simp only at q0 q1 q2 q3 q4 q5 hcx hsl hso
      have HSl : Hid _ := hsl
      have HSo : Hid _ := hso
      have hH := held2_any pr Fp R Hs x0 (wr.alloc (.cells #[.int .i64 x0, .int .i64 x1, .int .i64 x2, .int .i64 x3, .int .i64 x4, .int .i64 c] 90)) (HRr.out.keep (S := fun _ => False) ((Kq.refl _ _).alloc _) (fun _ h => h.elim)) hhl
      obtain ⟨b, hb⟩ : ∃ b, decide (x0 ∈ Hs) = b := ⟨_, rfl⟩
      rw [hb] at hH
      have HB : Hid (decide (x0 ∈ Hs) = b) := hb
      have hwc : IntKind.i64.wrap (c - 1) = c - 1 := by rw [IntKind.wrap_i64]; omega
      clear hx ek hmm hsl hso hb
      go_wp2_with fail
      refine hH.mono ?_
      rintro e w1 ⟨rfl, hw1⟩
      rw [hw1]
      clear hw1 w1 hH
      cases b with
      | true =>
        have hin : x0 ∈ Hs := of_decide_eq_true HB.out
        have hc0 : ¬ c = 0 := by omega
        obtain ⟨V, hV⟩ : ∃ V, wr.alloc (.cells #[.int .i64 x0, .int .i64 x1, .int .i64 x2, .int .i64 x3, .int .i64 x4, .int .i64 c] 90) = V := ⟨_, rfl⟩
        have VB : Hid (Below w.heap.size w V) := by show Below _ _ _; rw [← hV]; exact HBr.out.alloc HBr.out.size _
        have VT : Hid (TR V w.heap.size u3 (tickT (R.take j) Hs)) := by show TR _ _ _ _; rw [← hV]; exact HTr.out.keep (S := fun _ => False) ((Kq.refl _ _).alloc _) (fun _ _ h => h)
        have VK : Hid (KR V w.heap.size u4 (outS (R.take j) Hs)) := by show KR _ _ _ _; rw [← hV]; exact HKr.out.keep (S := fun _ => False) ((Kq.refl _ _).alloc _) (fun _ _ h => h)
        have hVz : w.heap.size ≤ V.heap.size := VB.out.size
        have g0 : V.cell? ⟨wr.heap.size, 0, none⟩ = some (.int .i64 x0) := by rw [← hV]; simp
        have g1 : V.cell? ⟨wr.heap.size, 1, none⟩ = some (.int .i64 x1) := by rw [← hV]; simp
        have g2 : V.cell? ⟨wr.heap.size, 2, none⟩ = some (.int .i64 x2) := by rw [← hV]; simp
        have g3 : V.cell? ⟨wr.heap.size, 3, none⟩ = some (.int .i64 x3) := by rw [← hV]; simp
        have g4 : V.cell? ⟨wr.heap.size, 4, none⟩ = some (.int .i64 x4) := by rw [← hV]; simp
        have g5 : V.cell? ⟨wr.heap.size, 5, none⟩ = some (.int .i64 c) := by rw [← hV]; simp
        go_wp2_with (first
          | (at_builtin; refine wpList_append_own_at _ rfl _ _ 83 rfl w.heap.size 90 i0 (.agg #[.int .i64 0, .int .i64 0, .int .i64 0, .int .i64 0, .int .i64 0, .int .i64 0]) 6 48 Try.underlying83 hi0 hz0 hz1 hz2 rfl (by decide) u3 (tickT (R.take j) Hs).length ((tickT (R.take j) Hs).flatMap tV) rfl (World.ownsRow.alloc VT.out _) ⟨V.heap.size, 0, none⟩ 1 1 [.int .i64 x0, .int .i64 x1, .int .i64 x2, .int .i64 x3, .int .i64 x4, .int .i64 c] rfl rfl (six_new _ _ _ _ _ _ _ _) (by simp [Value.oneCell']) (by unfold maxLen; omega) (by omega) (by simp; omega) ?_
             intro v' w8 hown' hgrow hnil hloc; clear hnil)
          | go_in)
        have hgr8 := (World.grownBy_alloc V (.cells #[.int .i64 x0, .int .i64 x1, .int .i64 x2, .int .i64 x3, .int .i64 x4, .int .i64 c] 90) u3.ownBlock).trans hgrow
        have B8 : Below w.heap.size w w8 := ⟨hgr8.os.trans VB.out.os, hgr8.tape.trans VB.out.tape, hgr8.output.trans VB.out.output, Nat.le_trans VB.out.size hgr8.size, fun g hg => (hgr8.block g (by omega) (fun e => by have := (World.ownsRow.lt VT.out g e.symm).1; omega)).trans (VB.out.block g hg)⟩
        have K8 : KR w8 w.heap.size u4 (outS (R.take j) Hs) := VK.out.keep (S := fun g => u3.ownBlock = some g) ((Kq.refl _ _).grown hgr8 (fun g hg => .inl hg)) (fun g hg e => HNe.out g e hg)
        have T8 : TR w8 w.heap.size v' (tickT (R.take j) Hs ++ [((x0, x1, x2, x3, x4), c)]) := TR.app hown'
        have N8 : ∀ g, v'.ownBlock = some g → u4.ownBlock ≠ some g := fun g hg e => by
          rcases hloc with h8 | h8
          · exact HNe.out g (h8 ▸ hg) e
          · have e1 : (V.alloc (.cells #[.int .i64 x0, .int .i64 x1, .int .i64 x2, .int .i64 x3, .int .i64 x4, .int .i64 c] 90)).heap.size = g := Option.some.inj (h8.symm.trans hg)
            have e2 := (World.ownsRow.lt VK.out g e).2
            simp at e1
            omega
        refine ⟨⟨j + 1, by simp <;> omega, by omega, ?_, ?_, N8, B8⟩, by simp [intOf] <;> omega⟩
        · rw [HSl.out, if_pos hin]; exact T8
        · rw [HSo.out, if_neg (fun e => e.2 hin), List.append_nil]; exact K8
      | false =>
        have hin : x0 ∉ Hs := of_decide_eq_false HB.out
        by_cases hc1 : c = 1
        · have hwz : IntKind.i64.wrap (c - 1) = 0 := by rw [hwc]; omega
          clear hwc
          obtain ⟨V, hV⟩ : ∃ V, wr.alloc (.cells #[.int .i64 x0, .int .i64 x1, .int .i64 x2, .int .i64 x3, .int .i64 x4, .int .i64 0] 90) = V := ⟨_, rfl⟩
          have VB : Hid (Below w.heap.size w V) := by show Below _ _ _; rw [← hV]; exact HBr.out.alloc HBr.out.size _
          have VT : Hid (TR V w.heap.size u3 (tickT (R.take j) Hs)) := by show TR _ _ _ _; rw [← hV]; exact HTr.out.keep (S := fun _ => False) ((Kq.refl _ _).alloc _) (fun _ _ h => h)
          have VK : Hid (KR V w.heap.size u4 (outS (R.take j) Hs)) := by show KR _ _ _ _; rw [← hV]; exact HKr.out.keep (S := fun _ => False) ((Kq.refl _ _).alloc _) (fun _ _ h => h)
          have hVz : w.heap.size ≤ V.heap.size := VB.out.size
          have g0 : V.cell? ⟨wr.heap.size, 0, none⟩ = some (.int .i64 x0) := by rw [← hV]; simp
          have g1 : V.cell? ⟨wr.heap.size, 1, none⟩ = some (.int .i64 x1) := by rw [← hV]; simp
          have g2 : V.cell? ⟨wr.heap.size, 2, none⟩ = some (.int .i64 x2) := by rw [← hV]; simp
          have g3 : V.cell? ⟨wr.heap.size, 3, none⟩ = some (.int .i64 x3) := by rw [← hV]; simp
          have g4 : V.cell? ⟨wr.heap.size, 4, none⟩ = some (.int .i64 x4) := by rw [← hV]; simp
          have g5 : V.cell? ⟨wr.heap.size, 5, none⟩ = some (.int .i64 0) := by rw [← hV]; simp
          go_wp2_with (first
            | (at_builtin; refine wpList_append_own_at _ rfl _ _ 58 rfl w.heap.size 51 j0 (.agg #[.int .i64 0, .int .i64 0, .int .i64 0, .int .i64 0, .int .i64 0]) 5 40 Try.underlying58 hj0 hy0 hy1 hy2 rfl (by decide) u4 (outS (R.take j) Hs).length ((outS (R.take j) Hs).flatMap kV) rfl (World.ownsRow.alloc VK.out _) ⟨V.heap.size, 0, none⟩ 1 1 [.int .i64 x0, .int .i64 x1, .int .i64 x2, .int .i64 x3, .int .i64 x4] rfl rfl (five_new _ _ _ _ _ _ _) (by simp [Value.oneCell']) (by unfold maxLen; omega) (by omega) (by simp; omega) ?_
               intro v' w8 hown' hgrow hnil hloc; clear hnil)
            | go_in)
          have hgr8 := (World.grownBy_alloc V (.cells #[.int .i64 x0, .int .i64 x1, .int .i64 x2, .int .i64 x3, .int .i64 x4] 51) u4.ownBlock).trans hgrow
          have B8 : Below w.heap.size w w8 := ⟨hgr8.os.trans VB.out.os, hgr8.tape.trans VB.out.tape, hgr8.output.trans VB.out.output, Nat.le_trans VB.out.size hgr8.size, fun g hg => (hgr8.block g (by omega) (fun e => by have := (World.ownsRow.lt VK.out g e.symm).1; omega)).trans (VB.out.block g hg)⟩
          have T8 : TR w8 w.heap.size u3 (tickT (R.take j) Hs) := VT.out.keep (S := fun g => u4.ownBlock = some g) ((Kq.refl _ _).grown hgr8 (fun g hg => .inl hg)) (fun g hg e => HNe.out g hg e)
          have K8 : KR w8 w.heap.size v' (outS (R.take j) Hs ++ [(x0, x1, x2, x3, x4)]) := KR.app (w := w8) hown'
          have N8 : ∀ g, u3.ownBlock = some g → v'.ownBlock ≠ some g := fun g hg e => by
            rcases hloc with h8 | h8
            · exact HNe.out g hg (h8 ▸ e)
            · have e1 : (V.alloc (.cells #[.int .i64 x0, .int .i64 x1, .int .i64 x2, .int .i64 x3, .int .i64 x4] 51)).heap.size = g := Option.some.inj (h8.symm.trans e)
              have e2 := (World.ownsRow.lt VT.out g hg).2
              simp at e1
              omega
          refine ⟨⟨j + 1, by simp <;> omega, by omega, ?_, ?_, N8, B8⟩, by simp [intOf] <;> omega⟩
          · rw [HSl.out, if_neg hin, if_pos hc1, List.append_nil]; exact T8
          · rw [HSo.out, if_pos ⟨hc1, hin⟩]; exact K8
        · have hc0 : ¬ c - 1 = 0 := by omega
          obtain ⟨V, hV⟩ : ∃ V, wr.alloc (.cells #[.int .i64 x0, .int .i64 x1, .int .i64 x2, .int .i64 x3, .int .i64 x4, .int .i64 (c - 1)] 90) = V := ⟨_, rfl⟩
          have VB : Hid (Below w.heap.size w V) := by show Below _ _ _; rw [← hV]; exact HBr.out.alloc HBr.out.size _
          have VT : Hid (TR V w.heap.size u3 (tickT (R.take j) Hs)) := by show TR _ _ _ _; rw [← hV]; exact HTr.out.keep (S := fun _ => False) ((Kq.refl _ _).alloc _) (fun _ _ h => h)
          have VK : Hid (KR V w.heap.size u4 (outS (R.take j) Hs)) := by show KR _ _ _ _; rw [← hV]; exact HKr.out.keep (S := fun _ => False) ((Kq.refl _ _).alloc _) (fun _ _ h => h)
          have hVz : w.heap.size ≤ V.heap.size := VB.out.size
          have g0 : V.cell? ⟨wr.heap.size, 0, none⟩ = some (.int .i64 x0) := by rw [← hV]; simp
          have g1 : V.cell? ⟨wr.heap.size, 1, none⟩ = some (.int .i64 x1) := by rw [← hV]; simp
          have g2 : V.cell? ⟨wr.heap.size, 2, none⟩ = some (.int .i64 x2) := by rw [← hV]; simp
          have g3 : V.cell? ⟨wr.heap.size, 3, none⟩ = some (.int .i64 x3) := by rw [← hV]; simp
          have g4 : V.cell? ⟨wr.heap.size, 4, none⟩ = some (.int .i64 x4) := by rw [← hV]; simp
          have g5 : V.cell? ⟨wr.heap.size, 5, none⟩ = some (.int .i64 (c - 1)) := by rw [← hV]; simp
          go_wp2_with (first
            | (at_builtin; refine wpList_append_own_at _ rfl _ _ 83 rfl w.heap.size 90 i0 (.agg #[.int .i64 0, .int .i64 0, .int .i64 0, .int .i64 0, .int .i64 0, .int .i64 0]) 6 48 Try.underlying83 hi0 hz0 hz1 hz2 rfl (by decide) u3 (tickT (R.take j) Hs).length ((tickT (R.take j) Hs).flatMap tV) rfl (World.ownsRow.alloc VT.out _) ⟨V.heap.size, 0, none⟩ 1 1 [.int .i64 x0, .int .i64 x1, .int .i64 x2, .int .i64 x3, .int .i64 x4, .int .i64 (c - 1)] rfl rfl (six_new _ _ _ _ _ _ _ _) (by simp [Value.oneCell']) (by unfold maxLen; omega) (by omega) (by simp; omega) ?_
               intro v' w8 hown' hgrow hnil hloc; clear hnil)
            | go_in)
          have hgr8 := (World.grownBy_alloc V (.cells #[.int .i64 x0, .int .i64 x1, .int .i64 x2, .int .i64 x3, .int .i64 x4, .int .i64 (c - 1)] 90) u3.ownBlock).trans hgrow
          have B8 : Below w.heap.size w w8 := ⟨hgr8.os.trans VB.out.os, hgr8.tape.trans VB.out.tape, hgr8.output.trans VB.out.output, Nat.le_trans VB.out.size hgr8.size, fun g hg => (hgr8.block g (by omega) (fun e => by have := (World.ownsRow.lt VT.out g e.symm).1; omega)).trans (VB.out.block g hg)⟩
          have K8 : KR w8 w.heap.size u4 (outS (R.take j) Hs) := VK.out.keep (S := fun g => u3.ownBlock = some g) ((Kq.refl _ _).grown hgr8 (fun g hg => .inl hg)) (fun g hg e => HNe.out g e hg)
          have T8 : TR w8 w.heap.size v' (tickT (R.take j) Hs ++ [((x0, x1, x2, x3, x4), c - 1)]) := TR.app hown'
          have N8 : ∀ g, v'.ownBlock = some g → u4.ownBlock ≠ some g := fun g hg e => by
            rcases hloc with h8 | h8
            · exact HNe.out g (h8 ▸ hg) e
            · have e1 : (V.alloc (.cells #[.int .i64 x0, .int .i64 x1, .int .i64 x2, .int .i64 x3, .int .i64 x4, .int .i64 (c - 1)] 90)).heap.size = g := Option.some.inj (h8.symm.trans hg)
              have e2 := (World.ownsRow.lt VK.out g e).2
              simp at e1
              omega
          refine ⟨⟨j + 1, by simp <;> omega, by omega, ?_, ?_, N8, B8⟩, by simp [intOf] <;> omega⟩
          · rw [HSl.out, if_neg hin, if_neg hc1]; exact T8
          · rw [HSo.out, if_neg (fun e => hc1 e.1), List.append_nil]; exact K8

end Go.Proofs.Ytnclfoljfnfglai
