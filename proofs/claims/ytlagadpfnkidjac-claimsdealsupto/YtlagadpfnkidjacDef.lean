import Derived.Test.YtlagadpfnkidjacDee
namespace Go.Proofs.Ytlagadpfnkidjac
open Go.RowKit

set_option maxHeartbeats 2000000 in
theorem refdeal_any (a : Option Addr) (c : Nat) (l : List Sp) (w : World) (most : Int) (h : Ls w (.slice a l.length c) l) :
    Calls Try.prog 18 #[.slice a l.length c, .int .i64 most] w (DealPost w l most) := by
  by_cases sl : IsSet l
  · by_cases hm : 1 ≤ most
    · exact refdeal_in a c l w most h sl hm
    · have hR := refright_ls h
      rw [show setB l = true from setB_iff.mpr sl] at hR
      have SL : Hid (IsSet l) := sl
      have hm' : most < 1 := by omega
      clear h sl hm
      go_enter Try.func18, Try.ntmps18
      go_wp2_with fail
      refine hR.mono ?_
      rintro e w1 ⟨rfl, hb1⟩
      have HB1 : Hid (Below w.heap.size w w1) := hb1
      clear hb1 hR
      go_wp2
      go_ret2
      exact ⟨_, [], 1, rfl, Dl.nil _ _, .inr (.inl ⟨SL.out, hm', rfl, rfl⟩), HB1.out⟩
  · have hR := refright_ls h
    rw [show setB l = false from by cases hq : setB l; rfl; exact absurd (setB_iff.mp hq) sl] at hR
    have SL : Hid (¬ IsSet l) := sl
    clear h sl
    go_enter Try.func18, Try.ntmps18
    go_wp2_with fail
    refine hR.mono ?_
    rintro e w1 ⟨rfl, hb1⟩
    have HB1 : Hid (Below w.heap.size w w1) := hb1
    clear hb1 hR
    go_wp2
    go_ret2
    exact ⟨_, [], 30, rfl, Dl.nil _ _, .inl ⟨SL.out, rfl, rfl⟩, HB1.out⟩

end Go.Proofs.Ytlagadpfnkidjac
