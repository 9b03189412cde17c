import Derived.Test.YtjolflpmeodnaagDoorRcWrd
import Derived.Maps.AppendAt
namespace Go.Proofs.YtjolflpmeodnaagDoor
open Go.RowKit
set_option linter.unusedVariables false

/-- A number's four bytes. -/
def wd4 (n : Int) : List Int := [n / 16777216, n / 65536 % 256, n / 256 % 256, n % 256]
theorem four_lit (W : World) (x y z u : Value) (t : TypeId) : ∀ j v, [x, y, z, u][j]? = some v → (W.alloc (.cells #[x, y, z, u] t)).cell? ((⟨W.heap.size, 0, none⟩ : Addr).add j) = some v := by
  intro j v hj
  match j, hj with
  | 0, hj => simp at hj; subst hj; simp [Addr.add]
  | 1, hj => simp at hj; subst hj; simp [Addr.add]
  | 2, hj => simp at hj; subst hj; simp [Addr.add]
  | 3, hj => simp at hj; subst hj; simp [Addr.add]
  | j + 4, hj => simp at hj

set_option maxRecDepth 100000 in
set_option maxHeartbeats 1000000 in
theorem putWord_any (base m : Nat) (v : Value) (zs : List Int) (n : Int) (w : World) (hn : 0 ≤ n ∧ n < 4294967296) (ho : w.ownsRow base 5 1 v m (zs.map (Value.int .u8))) (hm : m ≤ 140737488355000) (hB : base ≤ w.heap.size) :
    Calls Tryd.prog 23 #[v, .int .u32 n] w fun e w' => ∃ v', e = .returned v' ∧ w'.ownsRow base 5 1 v' (m + 4) ((zs ++ wd4 n).map (Value.int .u8)) ∧ w.grownBy w' v.ownBlock ∧ (∀ j, v'.ownBlock = some j → v.ownBlock = some j ∨ w.heap.size ≤ j) := by
  obtain ⟨i0, hinf, hz0, hz1, hz2⟩ := info_parts Tryd.info_u8
  obtain ⟨a, cap, rfl⟩ : ∃ a cap, v = .slice a m cap := by
    obtain ⟨_, ⟨rfl, rfl⟩ | ⟨g, cap, cur, rfl, _⟩⟩ := ho
    · exact ⟨none, 0, rfl⟩
    · exact ⟨_, cap, rfl⟩
  obtain ⟨n0, n1⟩ := hn
  have HO : Hid (∀ o, (w.alloc o).ownsRow base 5 1 (.slice a m cap) m (zs.map (Value.int .u8))) := fun o => ho.alloc o
  clear ho
  go_enter Tryd.func23, Tryd.ntmps23
  go_wp2_with (at_builtin; refine wpList_append_own_at _ rfl _ _ 25 rfl base 5 i0 (.int .u8 0) 1 1 Tryd.underlying25 hinf hz0 hz1 hz2 rfl (by decide) _ _ _ rfl (HO.out _) ⟨w.heap.size, 0, none⟩ 4 4 [.int .u8 (n / 16777216), .int .u8 (n / 65536 % 256), .int .u8 (n / 256 % 256), .int .u8 (n % 256)] rfl rfl (four_lit _ _ _ _ _ _) (by intro u hu; simp at hu; rcases hu with rfl | rfl | rfl | rfl <;> rfl) (by unfold maxLen; omega) (by omega) (by simp; omega) ?_; intro v1 w1 o1 g1 _ t1)
  have hs1 := g1.size
  simp only [World.size_alloc] at hs1
  have HV : Hid (∀ j, v1.ownBlock = some j → (Value.slice a m cap).ownBlock = some j ∨ w.heap.size ≤ j) := fun j hj => by
    rcases t1 with t | t
    · exact .inl (t ▸ hj)
    · right; rw [hj] at t; simp at t; omega
  have HG : Hid (w.grownBy w1 (Value.slice a m cap).ownBlock) := by
    refine ⟨g1.os, g1.tape, g1.output, by omega, fun g hg hne => ?_⟩
    exact (g1.block g (by simp; omega) hne).trans (((Below.refl w.heap.size w).alloc (Nat.le_refl _) _).block g hg)
  have HR : Hid (w1.ownsRow base 5 1 v1 (m + 4) ((zs ++ wd4 n).map (Value.int .u8))) := by unfold Hid; rw [List.map_append]; exact o1
  clear o1 g1 t1
  go_wp2
  go_ret
  exact ⟨_, rfl, HR.out, HG.out, HV.out⟩
end Go.Proofs.YtjolflpmeodnaagDoor
