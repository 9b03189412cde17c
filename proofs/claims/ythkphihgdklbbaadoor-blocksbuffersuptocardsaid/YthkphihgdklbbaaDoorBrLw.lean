import Derived.Test.YthkphihgdklbbaaDoorGivenOp
import Derived.Test.YthkphihgdklbbaaDoorBrEs
import Derived.Test.YthkphihgdklbbaaDoorBfAw
namespace Go.Proofs.YthkphihgdklbbaaDoor.C
open Go.RowKit Go.Shelf
set_option linter.unusedVariables false
set_option linter.unusedSimpArgs false

set_option maxHeartbeats 16000000 in
set_option maxRecDepth 100000 in
theorem buffers_walk (a0 : Option Addr) (l : List QO.Ox) (c0 : Nat) (w : World) (hT : Tab w) (hS : QO.Ol w a0 l) (hln : l.length ≤ 1048576) :
    Calls Tryd.prog 3 #[.slice a0 l.length c0] w fun e w' => e = .returned (.bool true) ∧ Below w.heap.size w w' := by
  have HS : Hid (QO.Ol w a0 l) := hS
  obtain ⟨n, hn⟩ : ∃ n, l.length = n := ⟨_, rfl⟩
  have HN : Hid (l.length = n) := hn
  rw [hn] at hln ⊢
  have hA := awk4_any w hT
  clear hS hn hT
  go_enter Tryd.func3, Tryd.ntmps3
  go_wp2_with fail
  refine hA.mono ?_
  rintro e w1 ⟨rfl, hb1⟩
  have HB1 : Hid (Below w.heap.size w w1) := hb1
  clear hb1 hA
  obtain ⟨q, hqe⟩ : ∃ N, w1.heap.size = N := ⟨_, rfl⟩
  obtain ⟨W, hW⟩ : ∃ W, w1.alloc (.cells #[.pointer none, .pointer none, .pointer none, .pointer none, .slice none 0 0, .slice none 0 0, .slice none 0 0, .slice none 0 0] 33) = W := ⟨_, rfl⟩
  have HN1 : Hid (w.heap.size ≤ q ∧ W.heap.size = q + 1 ∧ Below w.heap.size w W ∧ W.heap[q]? = some (.cells #[.pointer none, .pointer none, .pointer none, .pointer none, .slice none 0 0, .slice none 0 0, .slice none 0 0, .slice none 0 0] 33 (0, 0))) := by
    refine ⟨by rw [← hqe]; exact HB1.out.size, by rw [← hW, ← hqe]; simp, by rw [← hW]; exact HB1.out.alloc HB1.out.size _, ?_⟩
    rw [← hW, ← hqe]; exact heap_alloc_new' _ _
  go_wp2_with fail
  refine (makes4_false q _ _ _ _ _ _ _ _ W HN1.out.2.2.2).mono ?_
  rintro e w3 ⟨rfl, x1, y1, M1, m1, m2, m3, m4, m5⟩
  have HM1 : Hid (∃ M, w3.heap[q]? = some (.cells (mkC false (.pointer none) (.pointer none) (.pointer none) (.pointer none) (.slice none 0 0) (.slice none 0 0) (.slice none 0 0) (.slice none 0 0) x1 y1) 33 (0, 0)) ∧ Bu w3 x1 (fun g => W.heap.size ≤ g ∧ g < M) bf0 ∧ Rf w3 y1 (fun g => M ≤ g ∧ g < w3.heap.size) [] false ∧ W.heap.size ≤ M ∧ Kf (fun g => g = q) W w3) := ⟨M1, m1, m2, m3, m4, m5⟩
  clear m1 m2 m3 m4 m5 hW hqe
  go_wp2_with fail
  refine (makes4_true q (.pointer (some ⟨x1, 0, none⟩)) (.pointer none) (.pointer (some ⟨y1, 0, none⟩)) (.pointer none) (.slice none 0 0) (.slice none 0 0) (.slice none 0 0) (.slice none 0 0) w3 (by obtain ⟨M, h, _⟩ := HM1.out; exact h)).mono ?_
  rintro e w4 ⟨rfl, h4⟩
  have HWs : Hid (Ws4 w.heap.size w4 q 0 ∧ Below w.heap.size w w4) := by
    obtain ⟨k1, k2⟩ := ws4_start HN1.out.1 HN1.out.2.1 HM1.out h4
    exact ⟨k1, HN1.out.2.2.1.trans k2⟩
  clear h4 HM1 HN1 HB1
  go_wp2_with fail
  go_loopw [7] (fun v wr => ∃ i : Nat, v = .int .i64 i ∧ i ≤ n ∧ Ws4 w.heap.size wr q i ∧ Below w.heap.size w wr) (fun v _ => n - (intOf v).toNat)
  case atStart => exact ⟨0, rfl, by omega, HWs.out.1, HWs.out.2⟩
  case round =>
    clear HWs
    obtain ⟨i, rfl, hi, hWs, hB⟩ := hrel
    have HWs : Hid (Ws4 w.heap.size wr q i) := hWs
    have HB : Hid (Below w.heap.size w wr) := hB
    clear hWs hB
    by_cases hin : i = n
    · have hin2 := hin.symm
      clear hin
      subst hin2
      have hz : ¬ (n : Int) < (n : Int) := by omega
      go_wp2_with fail
      go_loopw [9] (fun v wr => ∃ (c : Int) (m : Nat), v = .int .i64 c ∧ ((c = 0 ∧ m = n) ∨ (c = 1 ∧ m = n + 3) ∨ (c = 2 ∧ m = n + 6)) ∧ Ws4 w.heap.size wr q m ∧ Below w.heap.size w wr) (fun v _ => 2 - (intOf v).toNat)
      case atStart => exact ⟨0, n, rfl, .inl ⟨rfl, rfl⟩, HWs.out, HB.out⟩
      case round =>
        clear HWs HB
        obtain ⟨c, m, rfl, hc, hWs, hB⟩ := hrel
        have HWs : Hid (Ws4 w.heap.size wr q m) := hWs
        have HB : Hid (Below w.heap.size w wr) := hB
        clear hWs hB
        rcases hc with ⟨rfl, hm⟩ | ⟨rfl, hm⟩ | ⟨rfl, hm⟩
        · have h1 := step_have w.heap.size q m 3 false 0 none 0 0 0 0 wr HWs.out rfl (by omega)
          unfold opC at h1
          have HMm : Hid (m = n) := hm
          have HMb : Hid (m ≤ 1048600) := by show m ≤ _; omega
          clear hm HWs
          go_wp2_with fail
          refine h1.mono ?_
          rintro e w5 ⟨rfl, hs5, hb5⟩
          have h2 := step_held w.heap.size q (m + 1) 4 false 0 none 0 0 0 0 w5 hs5 rfl
          unfold opC at h2
          have HB5 : Hid (Below w.heap.size w w5) := HB.out.trans hb5
          clear h1 hs5 hb5 HB
          go_wp2_with fail
          refine h2.mono ?_
          rintro e w6 ⟨rfl, hs6, hb6⟩
          have h3 := step_read w.heap.size q (m + 1 + 1) 5 false 0 none 0 0 0 1 w6 hs6 rfl (by have := HMb.out; omega)
          unfold opC at h3
          have HB6 : Hid (Below w.heap.size w w6) := HB5.out.trans hb6
          clear h2 hs6 hb6 HB5
          go_wp2_with fail
          refine h3.mono ?_
          rintro e w7 ⟨rfl, hs7, hb7⟩
          have e9 : m + 1 + 1 + 1 = n + 3 := by have := HMm.out; omega
          rw [e9] at hs7
          have HE : Hid (Ws4 w.heap.size w7 q (n + 3) ∧ Below w.heap.size w w7) := ⟨hs7, HB6.out.trans hb7⟩
          clear h3 hs7 hb7 HB6 e9
          go_wp2
          exact ⟨⟨1, n + 3, by simp, .inr (.inl ⟨rfl, rfl⟩), HE.out.1, HE.out.2⟩, by simp [intOf]⟩
        · have h1 := step_have w.heap.size q m 3 true 0 none 0 0 0 0 wr HWs.out rfl (by omega)
          unfold opC at h1
          have HMm : Hid (m = n + 3) := hm
          have HMb : Hid (m ≤ 1048600) := by show m ≤ _; omega
          clear hm HWs
          go_wp2_with fail
          refine h1.mono ?_
          rintro e w5 ⟨rfl, hs5, hb5⟩
          have h2 := step_held w.heap.size q (m + 1) 4 true 0 none 0 0 0 0 w5 hs5 rfl
          unfold opC at h2
          have HB5 : Hid (Below w.heap.size w w5) := HB.out.trans hb5
          clear h1 hs5 hb5 HB
          go_wp2_with fail
          refine h2.mono ?_
          rintro e w6 ⟨rfl, hs6, hb6⟩
          have h3 := step_read w.heap.size q (m + 1 + 1) 5 true 0 none 0 0 0 1 w6 hs6 rfl (by have := HMb.out; omega)
          unfold opC at h3
          have HB6 : Hid (Below w.heap.size w w6) := HB5.out.trans hb6
          clear h2 hs6 hb6 HB5
          go_wp2_with fail
          refine h3.mono ?_
          rintro e w7 ⟨rfl, hs7, hb7⟩
          have e9 : m + 1 + 1 + 1 = n + 6 := by have := HMm.out; omega
          rw [e9] at hs7
          have HE : Hid (Ws4 w.heap.size w7 q (n + 6) ∧ Below w.heap.size w w7) := ⟨hs7, HB6.out.trans hb7⟩
          clear h3 hs7 hb7 HB6 e9
          go_wp2
          exact ⟨⟨2, n + 6, by simp, .inr (.inr ⟨rfl, rfl⟩), HE.out.1, HE.out.2⟩, by simp [intOf]⟩
        · have h1 := ends_any w.heap.size q m wr HWs.out (by omega)
          clear hm HWs
          go_wp2_with fail
          refine h1.mono ?_
          rintro e w5 ⟨rfl, hb5⟩
          have HB5 : Hid (Below w.heap.size w w5) := HB.out.trans hb5
          clear h1 hb5 HB
          go_wp2
          go_ret
          exact ⟨rfl, HB5.out⟩
    · have hz : (i : Int) < (n : Int) := by omega
      have hwi : IntKind.i64.wrap ((i : Int) + 1) = (i : Int) + 1 := by rw [IntKind.wrap_i64]; omega
      obtain ⟨x, hx⟩ : ∃ x, l[i]? = some x := ⟨_, List.getElem?_eq_getElem (by rw [HN.out]; omega)⟩
      rcases HS.out with h0 | ⟨g, off, rfl, hl⟩
      · rw [h0] at hx; simp at hx
      · obtain ⟨ad, nd, cd, ⟨d0, d1, d2, d3, d4, d5⟩, k1, k2, k3, k4, k5⟩ := oat_later (hl i x hx) HB.out
        rw [Nat.add_zero] at d0
        have h1 := step_any w.heap.size q i x.kd x.k x.at' ad nd cd x.f x.t wr HWs.out (by omega) x.zs k1 k2 k3 k4 k5
        unfold opC at h1
        obtain ⟨x1, x2, x3, x4, x5, x6⟩ := x
        simp only at d0 d1 d2 d3 d4 d5 h1
        clear hx hl k1 k2 k3 k4 k5 HWs
        go_wp2_with fail
        refine h1.mono ?_
        rintro e w5 ⟨rfl, hs5, hb5⟩
        have HE : Hid (Ws4 w.heap.size w5 q (i + 1) ∧ Below w.heap.size w w5) := ⟨hs5, HB.out.trans hb5⟩
        clear h1 hs5 hb5 HB d0 d1 d2 d3 d4 d5
        go_wp2
        exact ⟨⟨i + 1, by simp, by omega, HE.out.1, HE.out.2⟩, by simp [intOf]; omega⟩

end Go.Proofs.YthkphihgdklbbaaDoor.C
