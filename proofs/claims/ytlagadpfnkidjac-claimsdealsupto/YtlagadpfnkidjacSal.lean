import Derived.Test.YtlagadpfnkidjacDed
namespace Go.Proofs.Ytlagadpfnkidjac
open Go.RowKit

theorem Dl.cellAt {W : World} {base n cap L : Nat} {cs : List Rw} (h : Dl W base (.slice (some ⟨L, 0, none⟩) n cap) cs) (hn : cs.length = n) {i : Nat} {x : Rw} (hx : cs[i]? = some x) : W.cell? ⟨L, i, none⟩ = some x.1 := by
  subst hn
  exact row_at h.row hx rfl

set_option maxHeartbeats 4000000 in
theorem sameall_eq {va vb : Value} {cs ds : List Rw} {base base' : Nat} {w : World} (h : Dl w base va cs) (h' : Dl w base' vb ds) (he : cs.map (·.2) = ds.map (·.2)) (hl : cs.length ≤ 1048576) (hs : ∀ x ∈ cs, x.2.length ≤ 1048576) :
    Calls Try.prog 20 #[va, vb] w fun e w' => e = .returned (.bool true) ∧ Below w.heap.size w w' := by
  have hn : cs.length = ds.length := by have := congrArg List.length he; simpa using this
  obtain ⟨a, c, rfl⟩ := own_shape h.row
  obtain ⟨b, d, rfl⟩ := own_shape h'.row
  rw [← hn] at h' ⊢
  have HA : Hid (Dl w base (.slice a cs.length c) cs) := h
  have HB : Hid (Dl w base' (.slice b cs.length d) ds) := h'
  have HE : Hid (cs.map (·.2) = ds.map (·.2)) := he
  have HN : Hid (ds.length = cs.length) := hn.symm
  have HS : Hid (∀ x ∈ cs, x.2.length ≤ 1048576) := hs
  clear h h' he hn hs
  go_enter Try.func20, Try.ntmps20
  go_wp2_with fail
  go_loopw [5] (fun x wr => ∃ i : Nat, i ≤ cs.length ∧ x = .int .i64 i ∧ Below w.heap.size w wr) (fun x _ => cs.length - (intOf x).toNat)
  case atStart => exact ⟨0, by omega, rfl, Below.refl _ _⟩
  case round =>
    obtain ⟨i, hil, rfl, hbe⟩ := hrel
    have HBe : Hid (Below w.heap.size w wr) := hbe
    by_cases hi : i < cs.length
    · have hi' : (i : Int) < (cs.length : Int) := by omega
      obtain ⟨⟨xv, xl⟩, hx⟩ := get_some cs i hi
      obtain ⟨⟨yv, yl⟩, hy⟩ := get_some ds i (by have := HN.out; omega)
      have hxy : xl = yl := by
        have := congrArg (fun z => z[i]?) HE.out
        simp only [List.getElem?_map, hx, hy, Option.map_some, Option.some.injEq] at this
        exact this
      subst hxy
      have hm := HS.out _ (List.mem_of_getElem? hx)
      simp only at hm
      have hA := HA.out.below hbe
      have hB := HB.out.below hbe
      obtain ⟨L, lc, hL⟩ := own_some hA.row (by omega)
      obtain ⟨M, mc, hM⟩ := own_some hB.row (by have := HN.out; omega)
      simp only [Value.slice.injEq] at hL hM
      obtain ⟨rfl, hq1, rfl⟩ := hL
      clear hq1
      obtain ⟨rfl, hq2, rfl⟩ := hM
      clear hq2
      have q1 := hA.cellAt rfl hx
      have q2 := hB.cellAt HN.out hy
      have hsm := fun n => same_ls (((hA.cl.own i _ hx).drewN n).ls (by show xl.length ≤ _; omega)) (((hB.cl.own i _ hy).drewN n).ls (by show xl.length ≤ _; omega))
      simp only at q1 q2 hsm
      rw [show eqB xl xl = true from decide_eq_true rfl] at hsm
      clear hbe hA hB hx hy
      go_wp2_with fail
      go_region_with (first
        | (go_at_call 12
           refine (hsm _).mono ?_
           rintro e w2 ⟨rfl, hb2⟩
           have HB2 : Hid (Below w.heap.size w w2) := (below_drewN HBe.out _).trans (hb2.mono HBe.out.size)
           clear hb2))
      all_goals (
        clear hsm q1 q2
        go_wp2
        go_roundw
        case rel => exact ⟨i + 1, by omega, by go_num, HB2.out⟩
        case measure => simp [intOf]; omega)
    · have hi' : ¬ (i : Int) < (cs.length : Int) := by omega
      clear hbe
      go_wp2
      go_ret
      exact ⟨rfl, HBe.out⟩

end Go.Proofs.Ytlagadpfnkidjac
