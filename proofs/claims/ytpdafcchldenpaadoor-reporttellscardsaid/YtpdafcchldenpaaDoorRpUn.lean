import Derived.Test.YtpdafcchldenpaaDoorRfu
namespace Go.Proofs.YtpdafcchldenpaaDoor.C
open Go.RowKit

theorem refunion5_any {v v' : Value} {l m : List Sp} {w : World} (h : Ls w v l) (h' : Ls w v' m) : Calls Tryd.prog 6 #[v, v'] w (UnionPost l m w) := by
  obtain ⟨a, c, rfl, _⟩ := h.shape
  obtain ⟨b, d, rfl, _⟩ := h'.shape
  by_cases hq : IsSet l ∧ IsSet m
  · exact refunion_in a b c d l m w h h' hq.1 hq.2
  · have HN : Hid (¬ (IsSet l ∧ IsSet m)) := hq
    have HI : Hid (setB l = true → IsSet l) := setB_iff.mp
    have HI' : Hid (setB m = true → IsSet m) := setB_iff.mp
    have hR := refright_ls h
    have HR2 : Hid (∀ W, Below w.heap.size w W → Calls Tryd.prog 17 #[.slice b m.length d] W fun e w' => e = .returned (.bool (setB m)) ∧ Below W.heap.size W w') := fun W hW => refright_ls (h'.below hW)
    clear h h' hq
    generalize setB l = V at *
    generalize setB m = V' at *
    go_enter Tryd.func6, Tryd.ntmps6
    go_wp2_with fail
    refine hR.mono ?_
    rintro e w1 ⟨rfl, hb1⟩
    have HB1 : Hid (Below w.heap.size w w1) := hb1
    clear hR hb1
    go_wp2_with fail
    refine (HR2.out w1 HB1.out).mono ?_
    rintro e w2 ⟨rfl, hb2⟩
    have HB2 : Hid (Below w.heap.size w w2) := HB1.out.trans (hb2.mono HB1.out.size)
    clear hb2 HB1 HR2
    cases V with
    | false =>
      clear HI HI'
      go_wp2
      go_ret2
      exact ⟨_, [], 30, rfl, SOwn.nil _ _, .inl ⟨HN.out, rfl, rfl⟩, HB2.out⟩
    | true =>
      cases V' with
      | true => exact absurd ⟨HI.out rfl, HI'.out rfl⟩ HN.out
      | false =>
        clear HI HI'
        go_wp2
        go_ret2
        exact ⟨_, [], 30, rfl, SOwn.nil _ _, .inl ⟨HN.out, rfl, rfl⟩, HB2.out⟩


end Go.Proofs.YtpdafcchldenpaaDoor.C
