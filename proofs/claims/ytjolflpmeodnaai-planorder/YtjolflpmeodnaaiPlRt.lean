import Derived.Test.YtjolflpmeodnaaiPlCt
namespace Go.Proofs.Ytjolflpmeodnaai
set_option linter.unusedVariables false
open Go.RowKit

theorem rt_drop {p x : Int} {l : List Ct} {k : Nat} {c : Ct} (h : l[k]? = some c) : rt p x (l.drop k) = one p x c + rt p x (l.drop (k + 1)) := by
  rw [pl_drop l k c h]; rfl

theorem may_mem {l : List Ct} (hm : ∀ c ∈ l, mayC c = true) (k : Nat) : ∀ c ∈ l.drop k, mayC c = true := fun c hc => hm c (List.mem_of_mem_drop hc)

set_option maxHeartbeats 2000000 in
/-- The closure: the rate at a tick. -/
theorem rate1_any (Bl Bp : Nat) (a : Option Addr) (cp : Nat) (l : List Ct) (p x : Int) (w : World) (hl : w.cell? ⟨Bl, 0, none⟩ = some (.slice a l.length cp)) (hp : w.cell? ⟨Bp, 0, none⟩ = some (.int .i64 p)) (h : Cta w a l) (hm : ∀ c ∈ l, mayC c = true) (hn : l.length ≤ 100) :
    Calls Try.prog 20 #[.int .i64 x, .pointer (some ⟨Bl, 0, none⟩), .pointer (some ⟨Bp, 0, none⟩)] w fun e w' => e = .returned (.int .i64 (rt p x l)) ∧ Below w.heap.size w w' := by
  have HS : Hid (Cta w a l ∧ (∀ c ∈ l, mayC c = true) ∧ w.cell? ⟨Bl, 0, none⟩ = some (.slice a l.length cp) ∧ w.cell? ⟨Bp, 0, none⟩ = some (.int .i64 p)) := ⟨h, hm, hl, hp⟩
  have HR0 : Hid (rt p x (l.drop 0) = rt p x l) := rfl
  generalize rt p x l = V at *
  have hb0 := rt_bnd (p := p) (x := x) hm
  clear h hm
  go_enter Try.func20, Try.ntmps20
  go_wp2_with fail
  go_loopw [5, 10] (fun q i wr => ∃ (k : Nat) (s : Int), k ≤ l.length ∧ i = .int .i64 k ∧ q = .int .i64 s ∧ 0 ≤ s ∧ s ≤ 1000 * k ∧ Below w.heap.size w wr ∧ Hid (s + rt p x (l.drop k) = V)) (fun _ i _ => l.length - (intOf i).toNat)
  case atStart => exact ⟨0, 0, by omega, rfl, rfl, by omega, by omega, Below.refl _ _, by rw [← HR0.out]; exact Int.zero_add _⟩
  case round =>
    obtain ⟨k, s, hk, rfl, rfl, hs0, hs1, hbe, HR⟩ := hrel
    have HBe : Hid (Below w.heap.size w wr) := hbe
    clear hbe
    by_cases hlt : k < l.length
    · have hlt' : (k : Int) < (l.length : Int) := by omega
      obtain ⟨c, hc⟩ := pl_get l k hlt
      obtain ⟨g, off, rfl, q1, q2, q3, q4⟩ := (HS.out.1.below HBe.out).at hc
      have hl2 := pl_cell HS.out.2.2.1 HBe.out
      have hp2 := pl_cell HS.out.2.2.2 HBe.out
      have hmc := mayC_iff.mp (HS.out.2.1 c (List.mem_of_getElem? hc))
      have HR2 : Hid (s + (one p x c + rt p x (l.drop (k + 1))) = V) := by have := HR.out; rw [rt_drop hc] at this; exact this
      have HBa := HBe.out.alloc HBe.out.size (.cells (ctC c) 33)
      clear HR hl hp
      obtain ⟨cp', cf, ct, cr⟩ := c
      simp only at q1 q2 q3 q4 hmc
      have HB2 : Hid (Below w.heap.size w (wr.alloc (.cells #[.int .i64 cp', .int .i64 cf, .int .i64 ct, .int .i64 cr] 33))) := HBa
      have hp3 : (wr.alloc (.cells #[.int .i64 cp', .int .i64 cf, .int .i64 ct, .int .i64 cr] 33)).cell? ⟨Bp, 0, none⟩ = some (.int .i64 p) := pl_cell hp2 ((Below.refl _ _).alloc (Nat.le_refl _) _)
      have hpB : Bp < wr.heap.size := World.block_lt_of_cell? wr ⟨Bp, 0, none⟩ hp2
      have hpN : Bp ≠ wr.heap.size := by omega
      clear HBa HBe hc
      by_cases h1 : cp' = p ∧ cf ≤ x ∧ x < ct
      · have HR3 : Hid (s + cr + rt p x (l.drop (k + 1)) = V) := by have := HR2.out; rw [one, if_pos h1] at this; rw [← this]; exact Int.add_assoc _ _ _
        obtain ⟨h1, h2, h3⟩ := h1
        subst h1
        clear HR2
        go_wp2
        go_roundw
        case rel => exact ⟨k + 1, s + cr, by omega, by go_num, by go_num, by omega, by omega, HB2.out, HR3⟩
        case measure => simp [intOf]; omega
      · have HR3 : Hid (s + rt p x (l.drop (k + 1)) = V) := by have := HR2.out; rw [one, if_neg h1, Int.zero_add] at this; exact this
        clear HR2
        by_cases e1 : cp' = p
        · by_cases e2 : cf ≤ x
          · have e3 : ¬ x < ct := fun h => h1 ⟨e1, e2, h⟩
            subst e1
            clear h1
            go_wp2
            go_roundw
            case rel => exact ⟨k + 1, s, by omega, by go_num, by go_num, by omega, by omega, HB2.out, HR3⟩
            case measure => simp [intOf]; omega
          · subst e1
            clear h1
            go_wp2
            go_roundw
            case rel => exact ⟨k + 1, s, by omega, by go_num, by go_num, by omega, by omega, HB2.out, HR3⟩
            case measure => simp [intOf]; omega
        · clear h1
          go_wp2
          go_roundw
          case rel => exact ⟨k + 1, s, by omega, by go_num, by go_num, by omega, by omega, HB2.out, HR3⟩
          case measure => simp [intOf]; omega
    · have hkn : k = l.length := by omega
      have HV : Hid (s = V) := by have := HR.out; rw [hkn, List.drop_length] at this; rw [rt, Int.add_zero] at this; exact this
      have hl2 := pl_cell HS.out.2.2.1 HBe.out
      clear HR
      subst hkn
      go_wp2
      go_ret
      exact ⟨by rw [HV.out]; rfl, HBe.out⟩

end Go.Proofs.Ytjolflpmeodnaai
