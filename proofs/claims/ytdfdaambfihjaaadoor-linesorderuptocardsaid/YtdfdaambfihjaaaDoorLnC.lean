import Derived.Test.YtdfdaambfihjaaaDoorSmG
import Derived.Test.YtdfdaambfihjaaaDoorStp
namespace Go.Proofs.YtdfdaambfihjaaaDoor
open Go.RowKit
set_option linter.unusedVariables false
set_option linter.unusedSimpArgs false

/-- lines.copyOfList of bytes: new memory. -/
theorem lnB_any {v : Value} {zs : List Int} {w : World} (h : BIn w v zs) :
    Calls Tryd.prog 60 #[v] w fun e w' => ∃ a c, e = .returned (.slice a zs.length c) ∧ w'.ownsRow w.heap.size 5 1 (.slice a zs.length c) zs.length (zs.map (Value.int .u8)) ∧ Below w.heap.size w w' := by
  obtain ⟨i0, hi, hz0, hz1, hz2⟩ := info_parts Tryd.info_u8
  obtain ⟨a, c, rfl, hl, hn, hlc, hcm⟩ := h.shape
  have hsm := h.small
  have HL : Hid (Lies .u8 w a zs) := hl
  have HN : Hid (a = none → zs.length = 0 ∧ c = 0) := hn
  clear h hl hn
  go_enter Tryd.func60, Tryd.ntmps60
  go_wp2_with (at_builtin; refine append_any _ rfl _ _ 34 rfl w.heap.size 5 i0 (.int .u8 0) 1 Tryd.underlying34 hi hz0 hz1 hz2 rfl _ _ _ rfl (World.ownsRow_nil _ _ _ _) .u8 a zs.length c zs rfl HN.out rfl HL.out (by unfold maxLen; omega) (by omega) (by simp) ?_)
  intro v' w1 hown1 hgrow
  have hb : Below w.heap.size w w1 := ⟨hgrow.os, hgrow.tape, hgrow.output, hgrow.size, fun k hk => hgrow.block k hk (by intro h; cases h)⟩
  have HO : Hid (w1.ownsRow w.heap.size 5 1 v' zs.length (zs.map (Value.int .u8))) := by
    first | exact hown1 | (have := hown1; rw [Nat.zero_add, List.nil_append] at this; exact this)
  clear hown1 hgrow
  obtain ⟨av, cv, rfl⟩ := own_shape HO.out
  go_wp2
  go_ret
  exact ⟨av, cv, rfl, HO.out, hb⟩

theorem lnS_info : (Tryd.prog.info? 91).map (fun i => (i.zero, i.size, i.bytes)) = some (some (.agg #[.int .i64 0, .int .i64 0]), 2, 16) := by kernel_rfl
theorem lnE_info : (Tryd.prog.info? 93).map (fun i => (i.zero, i.size, i.bytes)) = some (some (.agg #[.int .i64 0, .slice none 0 0]), 2, 32) := by kernel_rfl
def spL (p : Int × Int) : List Value := [.int .i64 p.1, .int .i64 p.2]
theorem two_get {α : Type} (f : α → List Value) (hf : ∀ x, (f x).length = 2) : ∀ (l : List α) (j : Nat) u, (l.flatMap f)[j]? = some u → ∃ i x, l[i]? = some x ∧ ((j = i * 2 ∧ (f x)[0]? = some u) ∨ (j = i * 2 + 1 ∧ (f x)[1]? = some u))
  | [], j, u, h => by simp at h
  | y :: r, j, u, h => by
    rw [List.flatMap_cons] at h
    by_cases hj : j < 2
    · rw [List.getElem?_append_left (by rw [hf]; exact hj)] at h
      have : j = 0 ∨ j = 1 := by omega
      rcases this with rfl | rfl
      · exact ⟨0, y, rfl, .inl ⟨rfl, h⟩⟩
      · exact ⟨0, y, rfl, .inr ⟨rfl, h⟩⟩
    · rw [List.getElem?_append_right (by rw [hf]; omega), hf] at h
      obtain ⟨i, x, h1, h2⟩ := two_get f hf r (j - 2) u h
      exact ⟨i + 1, x, by simpa using h1, by rcases h2 with ⟨e, h2⟩ | ⟨e, h2⟩; exact .inl ⟨by omega, h2⟩; exact .inr ⟨by omega, h2⟩⟩
theorem flat_len {α : Type} (f : α → List Value) (hf : ∀ x, (f x).length = 2) : ∀ l : List α, (l.flatMap f).length = l.length * 2
  | [] => rfl
  | y :: r => by rw [List.flatMap_cons, List.length_append, hf, flat_len f hf r, List.length_cons]; omega
theorem addr_add (g off j : Nat) : (⟨g, off, none⟩ : Addr).add j = ⟨g, off + j, none⟩ := by unfold Addr.add; split <;> simp_all

set_option maxHeartbeats 1000000 in
/-- lines.copyOfList of spans. -/
theorem lnS_any {v : Value} {cl : List (Int × Int)} {w : World} (h : CIn w v cl) :
    Calls Tryd.prog 61 #[v] w fun e w' => ∃ a c, e = .returned (.slice a cl.length c) ∧ w'.ownsRow w.heap.size 91 2 (.slice a cl.length c) cl.length (cl.flatMap spL) ∧ Below w.heap.size w w' := by
  obtain ⟨i0, hi, hz0, hz1, hz2⟩ := info_parts lnS_info
  obtain ⟨a, c, rfl, hs⟩ := h.shape
  have hsm := h.small
  have HS : Hid (cl = [] ∨ ∃ g off, a = some ⟨g, off, none⟩ ∧ ∀ (i : Nat) (p : Int × Int), cl[i]? = some p → w.cell? ⟨g, off + i * 2, none⟩ = some (.int .i64 p.1) ∧ w.cell? ⟨g, off + i * 2 + 1, none⟩ = some (.int .i64 p.2)) := hs
  clear h hs
  have HNw : Hid ((cl.flatMap spL).length = cl.length * 2 ∧ ∀ u ∈ cl.flatMap spL, u.oneCell' = true) := ⟨flat_len spL (fun _ => rfl) cl, fun u hu => by
    obtain ⟨p, _, hp⟩ := List.mem_flatMap.mp hu
    simp [spL] at hp
    rcases hp with rfl | rfl <;> rfl⟩
  cases a with
  | none =>
    have hcl : cl = [] := by
      rcases HS.out with h | ⟨g, off, e, _⟩
      · exact h
      · cases e
    subst hcl
    go_enter Tryd.func61, Tryd.ntmps61
    go_wp2_with (at_builtin; refine wpList_append_own_none rfl _ _ 35 rfl w.heap.size 91 i0 2 Tryd.underlying35 hi (.slice none 0 0) 0 [] rfl (World.ownsRow_nil _ _ _ _) rfl ?_)
    go_wp2
    go_ret
    exact ⟨none, 0, rfl, World.ownsRow_nil _ _ _ _, Below.refl _ _⟩
  | some ad =>
    have HC : Hid (∀ j u, (cl.flatMap spL)[j]? = some u → w.cell? (ad.add j) = some u) := fun j u hj => by
      obtain ⟨i, p, h1, h2⟩ := two_get spL (fun _ => rfl) cl j u hj
      rcases HS.out with h | ⟨g, off, e, hc⟩
      · rw [h] at h1; simp at h1
      · simp only [Option.some.injEq] at e
        subst e
        rw [addr_add]
        obtain ⟨q1, q2⟩ := hc i p h1
        rcases h2 with ⟨rfl, h2⟩ | ⟨rfl, h2⟩
        · rw [q1]; exact h2
        · rw [← Nat.add_assoc, q2]; exact h2
    clear HS
    go_enter Tryd.func61, Tryd.ntmps61
    go_wp2_with (at_builtin; refine wpList_append_own_at _ rfl _ _ 35 rfl w.heap.size 91 i0 (.agg #[.int .i64 0, .int .i64 0]) 2 16 Tryd.underlying35 hi hz0 hz1 hz2 rfl (by decide) (.slice none 0 0) 0 [] rfl (World.ownsRow_nil _ _ _ _) ad cl.length c (cl.flatMap spL) rfl HNw.out.1 HC.out HNw.out.2 (by unfold maxLen; omega) (by omega) (by simp) ?_)
    intro v' w1 hown1 hgrow _ _
    have hb : Below w.heap.size w w1 := ⟨hgrow.os, hgrow.tape, hgrow.output, hgrow.size, fun k hk => hgrow.block k hk (by intro h; cases h)⟩
    have HO : Hid (w1.ownsRow w.heap.size 91 2 v' cl.length (cl.flatMap spL)) := by
      first | exact hown1 | (have := hown1; rw [Nat.zero_add, List.nil_append] at this; exact this)
    clear hown1 hgrow
    obtain ⟨av, cv, rfl⟩ := own_shape HO.out
    go_wp2
    go_ret
    exact ⟨av, cv, rfl, HO.out, hb⟩

set_option maxHeartbeats 1000000 in
/-- lines.copyOfList of extensions: their own lists are the old ones still. -/
theorem lnE_any {v : Value} {xs : List Xr} {w : World} (h : XIn w v xs) :
    Calls Tryd.prog 69 #[v] w fun e w' => ∃ a c, e = .returned (.slice a xs.length c) ∧ w'.ownsRow w.heap.size 93 2 (.slice a xs.length c) xs.length (xs.flatMap Xr.cells) ∧ Below w.heap.size w w' := by
  obtain ⟨i0, hi, hz0, hz1, hz2⟩ := info_parts lnE_info
  obtain ⟨a, c, rfl, hs⟩ := h.shape
  have hsm := h.small
  have HS : Hid (xs = [] ∨ ∃ g off, a = some ⟨g, off, none⟩ ∧ ∀ (i : Nat) (x : Xr), xs[i]? = some x → w.cell? ⟨g, off + i * 2, none⟩ = some (.int .i64 x.tag) ∧ w.cell? ⟨g, off + i * 2 + 1, none⟩ = some x.val) := hs
  clear h hs
  have HNw : Hid ((xs.flatMap Xr.cells).length = xs.length * 2 ∧ ∀ u ∈ xs.flatMap Xr.cells, u.oneCell' = true) := ⟨flat_len Xr.cells (fun _ => rfl) xs, fun u hu => by
    obtain ⟨p, _, hp⟩ := List.mem_flatMap.mp hu
    simp [Xr.cells] at hp
    rcases hp with rfl | rfl <;> rfl⟩
  cases a with
  | none =>
    have hcl : xs = [] := by
      rcases HS.out with h | ⟨g, off, e, _⟩
      · exact h
      · cases e
    subst hcl
    go_enter Tryd.func69, Tryd.ntmps69
    go_wp2_with (at_builtin; refine wpList_append_own_none rfl _ _ 33 rfl w.heap.size 93 i0 2 Tryd.underlying33 hi (.slice none 0 0) 0 [] rfl (World.ownsRow_nil _ _ _ _) rfl ?_)
    go_wp2
    go_ret
    exact ⟨none, 0, rfl, World.ownsRow_nil _ _ _ _, Below.refl _ _⟩
  | some ad =>
    have HC : Hid (∀ j u, (xs.flatMap Xr.cells)[j]? = some u → w.cell? (ad.add j) = some u) := fun j u hj => by
      obtain ⟨i, p, h1, h2⟩ := two_get Xr.cells (fun _ => rfl) xs j u hj
      rcases HS.out with h | ⟨g, off, e, hc⟩
      · rw [h] at h1; simp at h1
      · simp only [Option.some.injEq] at e
        subst e
        rw [addr_add]
        obtain ⟨q1, q2⟩ := hc i p h1
        rcases h2 with ⟨rfl, h2⟩ | ⟨rfl, h2⟩
        · rw [q1]; exact h2
        · rw [← Nat.add_assoc, q2]; exact h2
    clear HS
    go_enter Tryd.func69, Tryd.ntmps69
    go_wp2_with (at_builtin; refine wpList_append_own_at _ rfl _ _ 33 rfl w.heap.size 93 i0 (.agg #[.int .i64 0, .slice none 0 0]) 2 32 Tryd.underlying33 hi hz0 hz1 hz2 rfl (by decide) (.slice none 0 0) 0 [] rfl (World.ownsRow_nil _ _ _ _) ad xs.length c (xs.flatMap Xr.cells) rfl HNw.out.1 HC.out HNw.out.2 (by unfold maxLen; omega) (by omega) (by simp) ?_)
    intro v' w1 hown1 hgrow _ _
    have hb : Below w.heap.size w w1 := ⟨hgrow.os, hgrow.tape, hgrow.output, hgrow.size, fun k hk => hgrow.block k hk (by intro h; cases h)⟩
    have HO : Hid (w1.ownsRow w.heap.size 93 2 v' xs.length (xs.flatMap Xr.cells)) := by
      first | exact hown1 | (have := hown1; rw [Nat.zero_add, List.nil_append] at this; exact this)
    clear hown1 hgrow
    obtain ⟨av, cv, rfl⟩ := own_shape HO.out
    go_wp2
    go_ret
    exact ⟨av, cv, rfl, HO.out, hb⟩

end Go.Proofs.YtdfdaambfihjaaaDoor
