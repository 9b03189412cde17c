import Derived.Test.YtdfdaambfihjaaaDoorLnSa
namespace Go.Proofs.YtdfdaambfihjaaaDoor.L
open Go.RowKit
set_option linter.unusedVariables false
set_option linter.unusedSimpArgs false

/-! ## What stays as it is -/
def Sta (N : Nat → Prop) (w : World) (y : Sv) : Prop := ∀ w', Kl N w w' → SAt w' y
theorem Sta.step {N N' N2 : Nat → Prop} {w w' : World} {y : Sv} (h : Sta N w y) (hk : Kl N' w w') (h1 : ∀ g, g < w.heap.size → N' g → N g) (h2 : ∀ g, g < w.heap.size → N2 g → N g) : Sta N2 w' y := fun w2 k2 => h w2 ((hk.mono h1).then k2 h2)
theorem Sta.at {N : Nat → Prop} {w : World} {y : Sv} (h : Sta N w y) : SAt w y := h w (Kl.refl _ _)
theorem PtP.sta {w w' : World} {p m : Nat} {lim K : Int} {o o' : Lo} {M : Nat} {s : Sg} {y : Sv} {lo hi : Nat} (h : PtP w w' p m lim K o o' M s y lo hi) {N : Nat → Prop} (hN : ∀ g, N g → ¬ (lo ≤ g ∧ g < hi)) : Sta N w' y := fun w2 hk => h.st w2 (fun g h0 h1 => hk.block g (Nat.lt_of_lt_of_le h1 h.h0) (fun e => hN g e ⟨h0, h1⟩))
abbrev nl : Value := .slice none 0 0
theorem sin_nil (s : Sg) (w : World) (h1 : s.head = []) (h2 : s.tail = []) (h3 : s.data = []) (h4 : s.clm = []) : SIn w s nl nl nl nl [] [] :=
  ⟨⟨⟨none, 0, rfl, .inl rfl⟩, fun _ h => (by cases h), by simp⟩, by rw [h1]; rfl, ⟨⟨none, 0, rfl, .inl rfl⟩, fun _ h => (by cases h), by simp⟩, by rw [h2]; rfl,
    by rw [h3]; exact ⟨⟨none, 0, rfl, .inl rfl, fun _ => ⟨rfl, rfl⟩, Nat.le_refl _, by omega⟩, fun _ h => (by cases h), by simp⟩, by rw [h4]; exact ⟨⟨none, 0, rfl, .inl rfl⟩, by simp⟩⟩
def sA : Sg := { typ := 9, org := 1, num := 5, head := [], tail := [], srv := 0, off := 0, data := [], chk := 0, rep := 1, low := 0, upp := 0, clm := [], rsn := 0 }
def sC : Sg := { typ := 12, org := 1, num := 5, head := [], tail := [], srv := 0, off := 0, data := [], chk := 0, rep := 0, low := 0, upp := 0, clm := [], rsn := 2 }
theorem prtA : (prt sA [] []).1 = 0 := by decide +kernel
theorem prtC : (prt sC [] []).1 = 0 := by decide +kernel
set_option maxRecDepth 100000 in
set_option maxHeartbeats 2000000 in
theorem ack_any (w : World) : Calls Tryd.prog 25 #[] w fun e w' => e = .returned (.agg (svC sA nl nl nl nl)) ∧ Below w.heap.size w w' := by
  obtain ⟨W, hW⟩ : ∃ W, w.alloc (.cells (svC sA nl nl nl nl) 37) = W := ⟨_, rfl⟩
  have HB : Hid (Below w.heap.size w W) := by rw [← hW]; exact (Below.refl _ _).alloc (Nat.le_refl _) _
  have hnw : W.heap[w.heap.size]? = some (.cells (svC sA nl nl nl nl) 37 (0, 0)) := by rw [← hW]; exact heap_alloc_new' _ _
  obtain ⟨u0, u1, u2, u3, u4, u5, u6, u7, u8, u9, u10, u11, u12, u13⟩ := s14_cells hnw
  have HW : Hid (w.alloc (.cells (svC sA nl nl nl nl) 37) = W) := hW
  clear hnw hW
  go_enter Tryd.func25, Tryd.ntmps25
  go_wp2
  have hv2 := HW.out
  simp only [sA, nl] at hv2 u0 u1 u2 u3 u4 u5 u6 u7 u8 u9 u10 u11 u12 u13
  rw [hv2]
  refine bodyPost_ret (v := .agg (svC sA nl nl nl nl)) (by simp [results, Tryd.results25, go_sem, u0, u1, u2, u3, u4, u5, u6, u7, u8, u9, u10, u11, u12, u13, sA, nl]) rfl ?_
  exact ⟨rfl, HB.out⟩
set_option maxRecDepth 100000 in
set_option maxHeartbeats 2000000 in
theorem cancel_any (w : World) : Calls Tryd.prog 24 #[] w fun e w' => e = .returned (.agg (svC sC nl nl nl nl)) ∧ Below w.heap.size w w' := by
  obtain ⟨W, hW⟩ : ∃ W, w.alloc (.cells (svC sC nl nl nl nl) 37) = W := ⟨_, rfl⟩
  have HB : Hid (Below w.heap.size w W) := by rw [← hW]; exact (Below.refl _ _).alloc (Nat.le_refl _) _
  have hnw : W.heap[w.heap.size]? = some (.cells (svC sC nl nl nl nl) 37 (0, 0)) := by rw [← hW]; exact heap_alloc_new' _ _
  obtain ⟨u0, u1, u2, u3, u4, u5, u6, u7, u8, u9, u10, u11, u12, u13⟩ := s14_cells hnw
  have HW : Hid (w.alloc (.cells (svC sC nl nl nl nl) 37) = W) := hW
  clear hnw hW
  go_enter Tryd.func24, Tryd.ntmps24
  go_wp2
  have hv2 := HW.out
  simp only [sC, nl] at hv2 u0 u1 u2 u3 u4 u5 u6 u7 u8 u9 u10 u11 u12 u13
  rw [hv2]
  refine bodyPost_ret (v := .agg (svC sC nl nl nl nl)) (by simp [results, Tryd.results24, go_sem, u0, u1, u2, u3, u4, u5, u6, u7, u8, u9, u10, u11, u12, u13, sC, nl]) rfl ?_
  exact ⟨rfl, HB.out⟩

end Go.Proofs.YtdfdaambfihjaaaDoor.L
