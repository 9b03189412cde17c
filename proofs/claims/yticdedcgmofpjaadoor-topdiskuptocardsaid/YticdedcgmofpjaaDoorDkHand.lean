import Derived.Test.YticdedcgmofpjaaDoorDkCr
namespace Go.Proofs.YticdedcgmofpjaaDoor.K
open Go.RowKit
set_option linter.unusedVariables false
set_option linter.unusedSimpArgs false

/-! ## The hand on a disk -/
def dk0 (M : Int) : Dk := ⟨[], M, false, 0, false, false⟩
def nn0 (r : Int) : Int := if r < 0 then 0 else r
theorem dNew_any (w : World) (r : Int) : Calls Tryd.prog 6 #[.int .i64 r] w fun e w' => e = .returned (.pointer (some ⟨w.heap.size + 1, 0, none⟩)) ∧ Dm w' w.heap.size (fun g => g = w.heap.size) (dk0 (nn0 r)) ∧ w'.cell? ⟨w.heap.size + 1, 0, none⟩ = some (.pointer (some ⟨w.heap.size, 0, none⟩)) ∧ w'.heap.size = w.heap.size + 2 ∧ Below w.heap.size w w' := by
  obtain ⟨M, hM⟩ : ∃ M, (if r < 0 then 0 else r) = M := ⟨_, rfl⟩
  have HM : Hid (nn0 r = M) := hM
  obtain ⟨W, hW⟩ : ∃ W, (w.alloc (.cells #[.slice none 0 0, .int .i64 M, .bool false, .int .i64 0, .bool false, .bool false] 58)).alloc (.cells #[.pointer (some ⟨w.heap.size, 0, none⟩)] 60) = W := ⟨_, rfl⟩
  have HR : Hid (Dm W w.heap.size (fun g => g = w.heap.size) (dk0 (nn0 r)) ∧ W.cell? ⟨w.heap.size + 1, 0, none⟩ = some (.pointer (some ⟨w.heap.size, 0, none⟩)) ∧ W.heap.size = w.heap.size + 2 ∧ Below w.heap.size w W) := by
    rw [HM.out]
    have hb : W.heap[w.heap.size]? = some (.cells #[.slice none 0 0, .int .i64 M, .bool false, .int .i64 0, .bool false, .bool false] 58 (0, 0)) := by
      rw [← hW]
      exact (Below.heap_alloc _ _ _ (by simp)).trans (heap_alloc_new _ _)
    refine ⟨⟨.slice none 0 0, [], rfl, hb, World.ownsRow_nil _ _ _ _, fun i p hp => by simp at hp, fun i j p q g hp => by simp at hp, rfl, fun g hg => (by cases hg), fun i p g hp => by simp at hp⟩, by rw [← hW]; simp, by rw [← hW]; simp, by rw [← hW]; exact ((Below.refl _ _).alloc (Nat.le_refl _) _).alloc (by simp) _⟩
  clear HM
  go_enter Tryd.func6, Tryd.ntmps6
  go_wp2
  all_goals (
    go_ret
    exact ⟨rfl, HR.out⟩)

theorem dDisk_any (w : World) (b x : Nat) (h : w.cell? ⟨b, 0, none⟩ = some (.pointer (some ⟨x, 0, none⟩))) : Calls Tryd.prog 7 #[.pointer (some ⟨b, 0, none⟩)] w fun e w' => e = .returned (.pointer (some ⟨w.heap.size, 0, none⟩)) ∧ w' = w.alloc (.cells #[.pointer (some ⟨x, 0, none⟩)] 62) := by
  go_enter Tryd.func7, Tryd.ntmps7
  go_wp2
  go_ret
  exact ⟨rfl, rfl⟩
theorem dDown_any (w : World) (b x : Nat) (F : Nat → Prop) (D : Dk) (hd : Dm w x F D) (h : w.cell? ⟨b, 0, none⟩ = some (.pointer (some ⟨x, 0, none⟩))) : Calls Tryd.prog 22 #[.pointer (some ⟨b, 0, none⟩)] w fun e w' => e = .returned (.bool D.dw) ∧ w' = w := by
  obtain ⟨_, k5, _, _⟩ := hd.dw true
  clear hd
  go_enter Tryd.func22, Tryd.ntmps22
  go_wp2
  go_ret
  exact ⟨rfl, rfl⟩
def armD (D : Dk) (N : Int) (b : Bool) : Dk := { D with arm := true, acts := nn0 N, dn := b }
set_option maxHeartbeats 4000000 in
theorem dArm_any (w : World) (b x : Nat) (F : Nat → Prop) (D : Dk) (N : Int) (dn : Bool) (hd : Dm w x F D) (h : w.cell? ⟨b, 0, none⟩ = some (.pointer (some ⟨x, 0, none⟩))) (nb : ¬ F b) : Calls Tryd.prog 14 #[.pointer (some ⟨b, 0, none⟩), .int .i64 N, .bool dn] w fun e w' => (∃ v, e = .returned v) ∧ Dm w' x F (armD D N dn) ∧ Kd F w w' := by
  obtain ⟨vf, L, hc⟩ := hd
  obtain ⟨M, hM⟩ : ∃ M, (if N < 0 then 0 else N) = M := ⟨_, rfl⟩
  have HM : Hid (nn0 N = M) := hM
  have hbx : b ≠ x := fun e => nb (e ▸ hc.fx)
  have k2 : w.cell? ⟨x, 2, none⟩ = some (.bool D.arm) := hc.c 2
  have k3 : w.cell? ⟨x, 3, none⟩ = some (.int .i64 D.acts) := hc.c 3
  have k4 : w.cell? ⟨x, 4, none⟩ = some (.bool D.dn) := hc.c 4
  have z2 := hc.z 2
  have z3 := hc.z 3
  have z4 := hc.z 4
  have HR : Hid (∀ V : World, V.heap = (((w.setCell ⟨x, 2, none⟩ (.bool true)).setCell ⟨x, 3, none⟩ (.int .i64 M)).setCell ⟨x, 4, none⟩ (.bool dn)).heap → V.os = w.os → V.tape = w.tape → V.output = w.output → Dm V x F (armD D N dn) ∧ Kd F w V) := fun V hV h1 h2 h3 => by
    have e1 : (w.setCell ⟨x, 2, none⟩ (.bool true)).heap[x]? = _ := heap_setCell_same w x 2 _ _ _ hc.box
    have e2 : ((w.setCell ⟨x, 2, none⟩ (.bool true)).setCell ⟨x, 3, none⟩ (.int .i64 M)).heap[x]? = _ := heap_setCell_same _ x 3 _ _ _ e1
    have e3 : (((w.setCell ⟨x, 2, none⟩ (.bool true)).setCell ⟨x, 3, none⟩ (.int .i64 M)).setCell ⟨x, 4, none⟩ (.bool dn)).heap[x]? = _ := heap_setCell_same _ x 4 _ _ _ e2
    have ho : ∀ k, k ≠ x → V.heap[k]? = w.heap[k]? := fun k hk => by
      rw [hV]
      exact (heap_setCell_other _ _ _ _ hk).trans ((heap_setCell_other _ _ _ _ hk).trans (heap_setCell_other _ _ _ _ hk))
    refine ⟨⟨vf, L, hc.boxed rfl ?_ ho⟩, ⟨h1, h2, h3, by rw [hV]; simp [World.setCell], fun k hk hn => ho k (fun e => hn (e ▸ hc.fx))⟩⟩
    rw [hV, e3]
    unfold armD
    rw [HM.out]
    rfl
  clear hc HM
  go_enter Tryd.func14, Tryd.ntmps14
  go_wp2_with fail
  go_region_held3 (fun V => V.cell? ⟨b, 0, none⟩ = some (.pointer (some ⟨x, 0, none⟩)))
    (first | exact h | exact set_cell h hbx | exact set_cell (set_cell h hbx) hbx | exact set_cell (set_cell (set_cell h hbx) hbx) hbx)
    (fail)
  all_goals (
    refine bodyPost_end (v := .tuple #[]) (by simp [results, Tryd.results14, go_sem]) rfl ?_
    refine ⟨⟨_, rfl⟩, HR.out _ rfl rfl rfl rfl⟩)

end Go.Proofs.YticdedcgmofpjaaDoor.K
