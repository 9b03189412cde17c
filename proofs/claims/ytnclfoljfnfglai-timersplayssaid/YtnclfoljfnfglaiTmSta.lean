import Derived.Test.YtnclfoljfnfglaiTmTab
import Derived.RegionTactic
import Derived.ChangeAlike
import Derived.BigRegion
namespace Go.Proofs.Ytnclfoljfnfglai
open Go.RowKit Go.Maps
set_option linter.unusedVariables false

theorem new10_any (w : World) : Calls Try.prog 19 #[] w fun e w' => e = .returned (.pointer (some ⟨w.heap.size + 2, 0, none⟩)) ∧ Tb w' (w.heap.size + 2) w.heap.size (w.heap.size + 1) [] [] ∧ Below w.heap.size w w' ∧ w'.heap.size = w.heap.size + 3 := by
  have hmm := @run_makeMap Try.prog
  go_enter Try.func19, Try.ntmps19
  go_wp2
  go_ret
  refine ⟨rfl, ?_, ?_, by simp⟩
  · refine ⟨?_, ⟨.map [], ?_, TD.empty⟩, ⟨.map [], ?_, HD.empty⟩, by omega, by simp⟩
    · rw [show w.heap.size + 2 = ((w.alloc (.map #[] 0)).alloc (.map #[] 0)).heap.size by simp]
      exact (MapKept.heap_alloc _ _).1
    · exact ((World.ownsMap_made w _ _ _).alloc _).alloc _
    · have := (World.ownsMap_made (w.alloc (.map #[] 0)) Try.prog 3 (unitElem (H := Unit))).alloc (.cells #[.map (some w.heap.size), .map (some (w.heap.size + 1))] 82)
      simpa using this
  · exact (((Below.refl _ _).alloc (Nat.le_refl _) _).alloc (by simp) _).alloc (by simp; omega) _

def mayK (k : Kx) : Prop := (1 ≤ k.1 ∧ k.1 ≤ 4611686018427387903) ∧ (1 ≤ k.2.1 ∧ k.2.1 ≤ 4611686018427387903) ∧ (1 ≤ k.2.2.1 ∧ k.2.2.1 < 4611686018427387903) ∧ (1 ≤ k.2.2.2.1 ∧ k.2.2.2.1 ≤ 4) ∧ (0 ≤ k.2.2.2.2 ∧ k.2.2.2.2 ≤ 4611686018427387903)
theorem kI_of {x : Int} (h : -9223372036854775808 ≤ x ∧ x ≤ 9223372036854775807) : kI x = true := by simp [kI, Lit.wf, IntKind.min, IntKind.max, IntKind.bits, IntKind.signed]; omega
theorem mayK.kW {k : Kx} (h : mayK k) : kW k := by
  obtain ⟨h1, h2, h3, h4, h5⟩ := h
  exact ⟨kI_of (by omega), kI_of (by omega), kI_of (by omega), kI_of (by omega), kI_of (by omega)⟩

abbrev kO (k : Kx) : Obj := .cells #[.int .i64 k.1, .int .i64 k.2.1, .int .i64 k.2.2.1, .int .i64 k.2.2.2.1, .int .i64 k.2.2.2.2] 51

theorem mayBe10_ok (k : Kx) (w : World) (h : mayK k) : Calls Try.prog 53 #[kA k] w fun e w' => e = .returned (.bool true) ∧ w' = w.alloc (kO k) := by
  obtain ⟨⟨a1, a2⟩, ⟨b1, b2⟩, ⟨c1, c2⟩, ⟨d1, d2⟩, ⟨e1, e2⟩⟩ := h
  obtain ⟨p, o, n, kd, s⟩ := k
  simp only at a1 a2 b1 b2 c1 c2 d1 d2 e1 e2
  go_enter Try.func53, Try.ntmps53
  go_wp2
  go_ret
  exact ⟨rfl, rfl⟩

set_option maxHeartbeats 1000000 in
set_option maxRecDepth 100000 in
theorem start10_ok (p bl bh : Nat) (L : Tl) (Hs : List Int) (k : Kx) (n : Int) (w : World) (h : Tb w p bl bh L Hs) (hk : mayK k) (hn : 1 ≤ n ∧ n ≤ 1048576) (hl : L.length < 2199023255552) :
    Calls Try.prog 26 #[.pointer (some ⟨p, 0, none⟩), kA k, .int .i64 n] w fun e w' => e = .returned (.int .i64 0) ∧ Tb w' p bl bh (putT L k n) Hs ∧ Kq (· = bl) w w' := by
  have H1 := mayBe10_ok k (w.alloc (kO k)) hk
  obtain ⟨W, hW⟩ : ∃ W, (w.alloc (kO k)).alloc (kO k) = W := ⟨_, rfl⟩
  have T2 : Tb W.drew p bl bh L Hs := by rw [← hW]; exact ((h.alloc _).alloc _).drew
  have K2 : Hid (Kq (· = bl) w W.drew) := by rw [← hW]; exact (((Kq.refl _ _).alloc _).alloc _).drew
  obtain ⟨D, hD, tD⟩ := T2.left
  obtain ⟨w3, hrun, ho3, ht3⟩ := hD.store (t := 79) keyK Try.underlying79 (by unfold maxLen; omega) (key_of hk.kW) (plainElem_int (q := .i64) (a := n) Try.underlying3 (kI_of (by omega)))
  have T3 : Hid (Tb w3 p bl bh (putT L k n) Hs) := T2.turn ho3 (tD.put (hD.tidy keyK) hk.kW ⟨by omega, hn.2⟩) ((Kq.refl _ _).grown ht3.grown (fun j hj => by cases hj; exact .inl rfl)) (fun x hx => by
    rcases List.mem_cons.mp hx with rfl | hx
    · exact hn.1
    · exact T2.pos x (mem_delT.mp hx).1)
  have K3 : Hid (Kq (· = bl) w w3) := K2.out.grown ht3.grown (fun j hj => by cases hj; exact .inl rfl)
  have cb : W.drew.cell? ⟨p, 0, none⟩ = some (.map (some bl)) := T2.cell0
  have hlt : w.heap.size ≠ p := fun e => by have := h.lts.1; omega
  obtain ⟨a0, a1, a2, a3, a4⟩ := k
  have c0 : W.drew.cell? ⟨w.heap.size, 0, none⟩ = some (.int .i64 a0) := by rw [← hW]; simp
  have c1 : W.drew.cell? ⟨w.heap.size, 1, none⟩ = some (.int .i64 a1) := by rw [← hW]; simp
  have c2 : W.drew.cell? ⟨w.heap.size, 2, none⟩ = some (.int .i64 a2) := by rw [← hW]; simp
  have c3 : W.drew.cell? ⟨w.heap.size, 3, none⟩ = some (.int .i64 a3) := by rw [← hW]; simp
  have c4 : W.drew.cell? ⟨w.heap.size, 4, none⟩ = some (.int .i64 a4) := by rw [← hW]; simp
  have HW : Hid ((w.alloc (kO (a0, a1, a2, a3, a4))).alloc (kO (a0, a1, a2, a3, a4)) = W) := hW
  obtain ⟨n1, n2⟩ := hn
  have n3 : ¬ n < 1 := by omega
  have n4 : ¬ 1048576 < n := by omega
  clear hD tD ho3 ht3 T2 K2 hW h hk hl
  go_enter Try.func26, Try.ntmps26
  go_wp2_with fail
  refine H1.mono ?_
  rintro e w' ⟨rfl, rfl⟩
  rw [HW.out]
  go_wp2_with fail
  go_region
  all_goals (go_wp2; go_ret; exact ⟨rfl, T3.out, K3.out⟩)

end Go.Proofs.Ytnclfoljfnfglai
