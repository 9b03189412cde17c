import Derived.Test.YtlagadpfnkidjadDoorBkCu2
import Derived.WalkSmall
namespace Go.Proofs.YtlagadpfnkidjadDoor
open Go.RowKit

theorem POwn.below {w w' : World} {base : Nat} {v : Value} {l : List Pc} (h : POwn w base v l) (hb : Below w.heap.size w w') : POwn w' base v l := by
  refine ⟨h.1, ?_⟩
  rcases h.2 with q | ⟨g, cap, cur, hv, h1, h2, h3⟩
  · exact .inl q
  · exact .inr ⟨g, cap, cur, hv, h1, (hb.block g (World.ownsRow.lt h g (by rw [hv]; rfl)).2).trans h2, h3⟩
theorem POwn.cells {w : World} {base g n cap : Nat} {l : List Pc} (h : POwn w base (.slice (some ⟨g, 0, none⟩) n cap) l) {i : Nat} {p : Pc} (hp : l[i]? = some p) : w.cell? ⟨g, i * 5, none⟩ = some (.int .i64 p.typ) ∧ w.cell? ⟨g, i * 5 + 1, none⟩ = some (.int .i64 p.frm) ∧ w.cell? ⟨g, i * 5 + 2, none⟩ = some (.int .i64 p.to) ∧ w.cell? ⟨g, i * 5 + 3, none⟩ = some (.int .i64 p.chk) ∧ w.cell? ⟨g, i * 5 + 4, none⟩ = some (.int .i64 p.rep) := by
  have hi : i < l.length := (List.getElem?_eq_some_iff.mp hp).1
  have q := pc_get l i p hp
  obtain ⟨g0, cap0, hv⟩ := own_pos h (by omega)
  simp only [Value.slice.injEq, Option.some.injEq, Addr.mk.injEq, and_true] at hv
  obtain ⟨rfl, rfl, rfl⟩ := hv
  have h' : w.ownsRow base 46 5 (.slice (some ⟨g, 0, none⟩) l.length cap) l.length (l.flatMap pcL) := h
  have c : ∀ j, j < 5 → w.cell? ⟨g, i * 5 + j, none⟩ = (l.flatMap pcL)[i * 5 + j]? := fun j hj => World.ownsRow.cellAt h' _ (by omega)
  exact ⟨(c 0 (by decide)).trans q.1, (c 1 (by decide)).trans q.2.1, (c 2 (by decide)).trans q.2.2.1, (c 3 (by decide)).trans q.2.2.2.1, (c 4 (by decide)).trans q.2.2.2.2⟩

set_option maxHeartbeats 2000000 in
/-- Two rows that say the same. -/
theorem samepc_eq {va vb : Value} {l : List Pc} {base base' : Nat} {w : World} (h : POwn w base va l) (h' : POwn w base' vb l) (hl : l.length ≤ 1048576) :
    Calls Tryd.prog 13 #[va, vb] w fun e w' => e = .returned (.bool true) ∧ Below w.heap.size w w' := by
  obtain ⟨a, c, rfl⟩ := own_shp h
  obtain ⟨b, d, rfl⟩ := own_shp h'
  have HA : Hid (POwn w base (.slice a l.length c) l) := h
  have HB : Hid (POwn w base' (.slice b l.length d) l) := h'
  clear h h'
  go_enter Tryd.func13, Tryd.ntmps13
  go_wp2_with fail
  go_loopw [5] (fun x wr => ∃ i : Nat, i ≤ l.length ∧ x = .int .i64 i ∧ Below w.heap.size w wr) (fun x _ => l.length - (intOf x).toNat)
  case atStart => exact ⟨0, by omega, rfl, Below.refl _ _⟩
  case round =>
    obtain ⟨i, hil, rfl, hbe⟩ := hrel
    have HBe : Hid (Below w.heap.size w wr) := hbe
    by_cases hi : i < l.length
    · have hi' : (i : Int) < (l.length : Int) := by omega
      have hp : l[i]? = some l[i] := List.getElem?_eq_getElem hi
      generalize l[i] = p at hp
      have hA := HA.out.below hbe
      have hB := HB.out.below hbe
      obtain ⟨L, lc, hL⟩ := own_pos hA (by omega)
      obtain ⟨M, mc, hM⟩ := own_pos hB (by omega)
      simp only [Value.slice.injEq, true_and] at hL hM
      obtain ⟨rfl, rfl⟩ := hL
      obtain ⟨rfl, rfl⟩ := hM
      obtain ⟨q0, q1, q2, q3, q4⟩ := hA.cells hp
      obtain ⟨r0, r1, r2, r3, r4⟩ := hB.cells hp
      clear hbe hA hB hp
      obtain ⟨p0, p1, p2, p3, p4⟩ := p
      simp only at q0 q1 q2 q3 q4 r0 r1 r2 r3 r4
      go_wp2_with fail
      go_quiet (fail)
      go_wp2
      go_roundw
      case rel => exact ⟨i + 1, by omega, by go_num, below_drewN HBe.out _⟩
      case measure => simp [intOf]; omega
    · have hi' : ¬ (i : Int) < (l.length : Int) := by omega
      clear hbe
      go_wp2
      go_ret
      exact ⟨rfl, HBe.out⟩

theorem cut_len (k : Pk) (base : Int) : (cut k base).1.length ≤ 131072 := by
  unfold cut
  split
  · simp
  · rename_i h1
    split
    · simp
    · rename_i h2
      split
      · simp
      · have ok := Pk.ok_of (k := k) (by simpa using h1) (by simpa using h2)
        have := cutL_len ok base
        simp only [cutL, List.length_append]
        omega

end Go.Proofs.YtlagadpfnkidjadDoor
