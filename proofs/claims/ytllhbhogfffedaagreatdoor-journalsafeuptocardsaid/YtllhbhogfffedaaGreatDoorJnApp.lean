import Derived.Test.YtllhbhogfffedaaGreatDoorRcFme
import Derived.Test.YtllhbhogfffedaaGreatDoorJkSs
import Derived.Deep.RegionHeld3
namespace Go.Proofs.YtllhbhogfffedaaGreatDoor
open Go.RowKit
set_option linter.unusedVariables false
set_option linter.unusedSimpArgs false

theorem Tryz.jinfo_file : (Tryz.prog.info? 75).map (fun i => (i.zero, i.size, i.bytes)) = some (some (.agg #[.string ⟨#[]⟩, .slice none 0 0, .int .i64 0]), 3, 48) := by kernel_rfl
theorem jinfo_parts {P : Program} {t : TypeId} {z : Value} {n b : Nat} (h : (P.info? t).map (fun i => (i.zero, i.size, i.bytes)) = some (some z, n, b)) : ∃ i, P.info? t = some i ∧ i.zero = some z ∧ i.size = n ∧ i.bytes = b := by
  cases hi : P.info? t with
  | none => rw [hi] at h; cases h
  | some i => rw [hi] at h; simp at h; exact ⟨i, rfl, h.1, h.2.1, h.2.2⟩
theorem jthree_new (w : World) (a b c : Value) (t : TypeId) : ∀ j u, [a, b, c][j]? = some u → (w.alloc (.cells #[a, b, c] t)).cell? ((⟨w.heap.size, 0, none⟩ : Addr).add j) = some u := by
  intro j u hj
  match j, hj with
  | 0, hj => simp at hj; subst hj; simp [Addr.add]
  | 1, hj => simp at hj; subst hj; simp [Addr.add]
  | 2, hj => simp at hj; subst hj; simp [Addr.add]

theorem jown_pos {w : World} {base n sz : Nat} {e : TypeId} {v : Value} {xs : List Value} (h : w.ownsRow base e sz v n xs) (hn : 0 < n) : ∃ g cap, v = .slice (some ⟨g, 0, none⟩) n cap ∧ base ≤ g ∧ g < w.heap.size := by
  obtain ⟨_, ⟨rfl, rfl⟩ | ⟨g, cap, cur, rfl, hb, hg, _⟩⟩ := h
  · omega
  · exact ⟨g, cap, rfl, hb, (Array.getElem?_eq_some_iff.mp hg).1⟩
theorem jcell_grown {w w' : World} {row : Option Nat} {k o : Nat} {u : Value} (h : w.cell? ⟨k, o, none⟩ = some u) (hg : w.grownBy w' row) (hne : some k ≠ row) : w'.cell? ⟨k, o, none⟩ = some u :=
  (World.cell?_of_block (a := ⟨k, o, none⟩) (hg.block k (World.block_lt_of_cell? w ⟨k, o, none⟩ h) hne)).trans h
theorem jgrown_trans {a b c : World} {row : Option Nat} (h : a.grownBy b row) (h' : b.grownBy c row) : a.grownBy c row :=
  ⟨h'.os.trans h.os, h'.tape.trans h.tape, h'.output.trans h.output, Nat.le_trans h.size h'.size, fun k hk hne => (h'.block k (Nat.lt_of_lt_of_le hk h.size) hne).trans (h.block k hk hne)⟩
theorem jgrown_none {a b : World} {row : Option Nat} (h : a.grownBy b none) : a.grownBy b row := ⟨h.os, h.tape, h.output, h.size, fun k hk _ => h.block k hk (by simp)⟩
theorem jgrown_drew (w : World) (row : Option Nat) : w.grownBy w.drew row := ⟨rfl, rfl, rfl, Nat.le_refl _, fun _ _ _ => rfl⟩
theorem jgrown_alloc (w : World) (o : Obj) (row : Option Nat) : w.grownBy (w.alloc o) row := ⟨rfl, rfl, rfl, by simp, fun k hk _ => Below.heap_alloc _ _ k hk⟩
theorem jgrown_set (w : World) (x o : Nat) (u : Value) : w.grownBy (w.setCell ⟨x, o, none⟩ u) (some x) := ⟨rfl, rfl, rfl, by simp [World.setCell], fun k hk hne => heap_setCell_other w ⟨x, o, none⟩ k u (fun e => hne (by rw [e]))⟩

/-- What lies in a cell, whatever it is. -/
def jfv (x o : Nat) (V : World) : Value := (V.cell? ⟨x, o, none⟩).getD (.slice none 0 0)
theorem jset_other {V : World} {x o k j : Nat} {u v : Value} (h : V.cell? ⟨k, j, none⟩ = some u) (hne : k ≠ x ∨ j ≠ o) : (V.setCell ⟨x, o, none⟩ v).cell? ⟨k, j, none⟩ = some u := by
  rw [World.cell?_setCell_other _ _ _ _ (fun e => by cases e; rcases hne with h | h <;> exact h rfl)]; exact h

/-- What Append's act leaves of a disk without files. -/
structure Ap1 (w : World) (x : Nat) (s : ByteArray) (n : Nat) (bs : List Value) (w' : World) : Prop where
  ex : ∃ F cp ab cb, Bx1 w' x F cp s ab n cb 0 ∧ w.heap.size ≤ F ∧ F < w'.heap.size ∧ w'.frozen? ⟨F, 2, none⟩ = false ∧ w'.ownsRow w.heap.size 5 1 (.slice ab n cb) n bs
  gr : w.grownBy w' (some x)
  oth : ∀ j, j ≠ 0 → w'.cell? ⟨x, j, none⟩ = w.cell? ⟨x, j, none⟩

set_option maxHeartbeats 4000000 in
set_option maxRecDepth 20000 in
theorem app1_none (w : World) (D N B d x : Nat) (s : ByteArray) (gb n c base : Nat) (bs : List Value)
    (hD : w.cell? ⟨D, 0, none⟩ = some (.pointer (some ⟨d, 0, none⟩))) (hN : w.cell? ⟨N, 0, none⟩ = some (.string s)) (hB : w.cell? ⟨B, 0, none⟩ = some (.slice (some ⟨gb, 0, none⟩) n c))
    (hd : w.cell? ⟨d, 0, none⟩ = some (.pointer (some ⟨x, 0, none⟩))) (hf : w.cell? ⟨x, 0, none⟩ = some (.slice none 0 0)) (hfz : w.frozen? ⟨x, 0, none⟩ = false)
    (hrow : w.ownsRow base 5 1 (.slice (some ⟨gb, 0, none⟩) n c) n bs) (hone : ∀ u ∈ bs, u.oneCell' = true) (hn : n ≤ 1000) (hn0 : 0 < n) (hgx : gb ≠ x) (hDx : D ≠ x) (hNx : N ≠ x) (hBx : B ≠ x) (hdx : d ≠ x) :
    Calls Tryz.prog 58 #[.pointer (some ⟨D, 0, none⟩), .pointer (some ⟨N, 0, none⟩), .pointer (some ⟨B, 0, none⟩)] w fun e w' => (∃ v, e = .returned v) ∧ Ap1 w x s n bs w' := by
  obtain ⟨i0, hi, hz0, hz1, hz2⟩ := jinfo_parts Tryz.jinfo_file
  obtain ⟨iu, hiu, hy0, hy1, hy2⟩ := jinfo_parts Tryz.info_u8
  have HF := fun k => find_none (w.drewN k) x s hf
  have HF0 := find_none w.drew x s hf
  have HF1 := find_none w x s hf
  have HRw : Hid (w.ownsRow base 5 1 (.slice (some ⟨gb, 0, none⟩) n c) n bs ∧ ∀ u ∈ bs, u.oneCell' = true) := ⟨hrow, hone⟩
  clear hrow hone
  go_enter Tryz.func58, Tryz.ntmps58
  go_wp2_with fail
  go_region_held3 (fun V => V.cell? ⟨D, 0, none⟩ = some (.pointer (some ⟨d, 0, none⟩)) ∧ V.cell? ⟨N, 0, none⟩ = some (.string s) ∧ V.cell? ⟨d, 0, none⟩ = some (.pointer (some ⟨x, 0, none⟩)))
    (first | (exact ⟨hD, hN, hd⟩))
    (first
      | (go_at_call 59
         refine HF0.mono ?_
         rintro e w2 ⟨rfl, rfl⟩))
  clear HF HF0 HF1
  go_wp2_with fail
  refine wp_region_held (S := fun V => V.cell? ⟨D, 0, none⟩ = some (.pointer (some ⟨d, 0, none⟩)) ∧ V.cell? ⟨N, 0, none⟩ = some (.string s) ∧ V.cell? ⟨d, 0, none⟩ = some (.pointer (some ⟨x, 0, none⟩))) (by kernel_rfl) ?_
  change wpAnyH _ _ _ _ _ _ _ _ w.drew.drew
  have hS : w.drew.drew.cell? ⟨D, 0, none⟩ = some (.pointer (some ⟨d, 0, none⟩)) ∧ w.drew.drew.cell? ⟨N, 0, none⟩ = some (.string s) ∧ w.drew.drew.cell? ⟨d, 0, none⟩ = some (.pointer (some ⟨x, 0, none⟩)) := ⟨hD, hN, hd⟩
  refine wpAnyH_take (i := 0) (v := .pointer (some ⟨d, 0, none⟩)) rfl (by kernel_rfl) (by kernel_rfl) (by kernel_rfl) (fun _ _ _ h => h) (.inl ⟨by kernel_rfl, fun V hV => ?_⟩) hS ?_
  · obtain ⟨s0, s1, s2⟩ := hV
    go_simp
  try simp only [Act.put, List.setIfInBounds_toArray, List.set_cons_zero, List.set_cons_succ]
  refine wpAnyH_take (i := 1) (v := .pointer (some ⟨d, 0, none⟩)) rfl (by kernel_rfl) (by kernel_rfl) (by kernel_rfl) (fun _ _ _ h => h) (.inl ⟨by kernel_rfl, fun V hV => ?_⟩) hS ?_
  · obtain ⟨s0, s1, s2⟩ := hV
    go_simp
  try simp only [Act.put, List.setIfInBounds_toArray, List.set_cons_zero, List.set_cons_succ]
  refine wpAnyH_take (i := 2) (v := .pointer (some ⟨d, 0, none⟩)) rfl (by kernel_rfl) (by kernel_rfl) (by kernel_rfl) (fun _ _ _ h => h) (.inl ⟨by kernel_rfl, fun V hV => ?_⟩) hS ?_
  · obtain ⟨s0, s1, s2⟩ := hV
    go_simp
  try simp only [Act.put, List.setIfInBounds_toArray, List.set_cons_zero, List.set_cons_succ]
  refine wpAnyH_take (i := 3) (v := .pointer (some ⟨x, 0, none⟩)) rfl (by kernel_rfl) (by kernel_rfl) (by kernel_rfl) (fun _ _ _ h => h) (.inl ⟨by kernel_rfl, fun V hV => ?_⟩) hS ?_
  · obtain ⟨s0, s1, s2⟩ := hV
    go_simp
  try simp only [Act.put, List.setIfInBounds_toArray, List.set_cons_zero, List.set_cons_succ]
  refine wpAnyH_take (i := 4) (v := .pointer (some ⟨d, 0, none⟩)) rfl (by kernel_rfl) (by kernel_rfl) (by kernel_rfl) (fun _ _ _ h => h) (.inl ⟨by kernel_rfl, fun V hV => ?_⟩) hS ?_
  · obtain ⟨s0, s1, s2⟩ := hV
    go_simp
  try simp only [Act.put, List.setIfInBounds_toArray, List.set_cons_zero, List.set_cons_succ]
  refine wpAnyH_take (i := 5) (v := .pointer (some ⟨d, 0, none⟩)) rfl (by kernel_rfl) (by kernel_rfl) (by kernel_rfl) (fun _ _ _ h => h) (.inl ⟨by kernel_rfl, fun V hV => ?_⟩) hS ?_
  · obtain ⟨s0, s1, s2⟩ := hV
    go_simp
  try simp only [Act.put, List.setIfInBounds_toArray, List.set_cons_zero, List.set_cons_succ]
  refine wpAnyH_take (i := 6) (v := .pointer (some ⟨d, 0, none⟩)) rfl (by kernel_rfl) (by kernel_rfl) (by kernel_rfl) (fun _ _ _ h => h) (.inl ⟨by kernel_rfl, fun V hV => ?_⟩) hS ?_
  · obtain ⟨s0, s1, s2⟩ := hV
    go_simp
  try simp only [Act.put, List.setIfInBounds_toArray, List.set_cons_zero, List.set_cons_succ]
  refine wpAnyH_take (i := 7) (v := .pointer (some ⟨x, 0, none⟩)) rfl (by kernel_rfl) (by kernel_rfl) (by kernel_rfl) (fun _ _ _ h => h) (.inl ⟨by kernel_rfl, fun V hV => ?_⟩) hS ?_
  · obtain ⟨s0, s1, s2⟩ := hV
    go_simp
  try simp only [Act.put, List.setIfInBounds_toArray, List.set_cons_zero, List.set_cons_succ]
  refine wpAnyH_take (i := 8) (v := .pointer (some ⟨x, 0, none⟩)) rfl (by kernel_rfl) (by kernel_rfl) (by kernel_rfl) (fun _ _ _ h => h) (.inl ⟨by kernel_rfl, fun V hV => ?_⟩) hS ?_
  · obtain ⟨s0, s1, s2⟩ := hV
    go_simp
  try simp only [Act.put, List.setIfInBounds_toArray, List.set_cons_zero, List.set_cons_succ]
  refine wpAnyH_take (i := 9) (v := .pointer (some ⟨x, 0, none⟩)) rfl (by kernel_rfl) (by kernel_rfl) (by kernel_rfl) (fun _ _ _ h => h) (.inl ⟨by kernel_rfl, fun V hV => ?_⟩) hS ?_
  · obtain ⟨s0, s1, s2⟩ := hV
    go_simp
  try simp only [Act.put, List.setIfInBounds_toArray, List.set_cons_zero, List.set_cons_succ]
  refine wpAnyH_take (i := 11) (v := .string s) rfl (by kernel_rfl) (by kernel_rfl) (by kernel_rfl) (fun _ _ _ h => h) (.inl ⟨by kernel_rfl, fun V hV => ?_⟩) hS ?_
  · obtain ⟨s0, s1, s2⟩ := hV
    go_simp
  try simp only [Act.put, List.setIfInBounds_toArray, List.set_cons_zero, List.set_cons_succ]
  refine wpAnyH_take (i := 12) (v := .agg #[.string s, .slice none 0 0, .int .i64 0]) rfl (by kernel_rfl) (by kernel_rfl) (by kernel_rfl) (fun _ _ _ h => h) (.inl ⟨by kernel_rfl, fun V hV => ?_⟩) hS ?_
  · obtain ⟨s0, s1, s2⟩ := hV
    go_simp
  try simp only [Act.put, List.setIfInBounds_toArray, List.set_cons_zero, List.set_cons_succ]
  have aD : ∀ o, (w.drew.drew.alloc o).cell? ⟨D, 0, none⟩ = some (.pointer (some ⟨d, 0, none⟩)) := fun o => jcell_grown (w := w.drew.drew) (row := none) hD (jgrown_alloc _ o none) (by simp)
  have aN : ∀ o, (w.drew.drew.alloc o).cell? ⟨N, 0, none⟩ = some (.string s) := fun o => jcell_grown (w := w.drew.drew) (row := none) hN (jgrown_alloc _ o none) (by simp)
  have ad : ∀ o, (w.drew.drew.alloc o).cell? ⟨d, 0, none⟩ = some (.pointer (some ⟨x, 0, none⟩)) := fun o => jcell_grown (w := w.drew.drew) (row := none) hd (jgrown_alloc _ o none) (by simp)
  have af : (w.alloc (.cells #[.string s, .slice none 0 0, .int .i64 0] 75)).cell? ⟨x, 0, none⟩ = some (.slice none 0 0) := jcell_grown hf (jgrown_alloc w _ none) (by simp)
  have hDl := World.block_lt_of_cell? w ⟨D, 0, none⟩ hD
  have hBl := World.block_lt_of_cell? w ⟨B, 0, none⟩ hB
  have hdl := World.block_lt_of_cell? w ⟨d, 0, none⟩ hd
  refine wpAnyH_ready (rs := [10, 13]) (by kernel_rfl) (by simp) ?_
  refine AllReadyH.cons (o := _) rfl (fun K hK => ?way1) (AllReadyH.cons (o := _) rfl (fun K hK => ?way2) AllReadyH.nil)
  case' way1 =>
    go_simp
    refine hK.out _ _ hS (fun _ => ?_)
    clear hK K
    try simp only [Act.put, List.setIfInBounds_toArray, List.set_cons_zero, List.set_cons_succ]
    refine wpAnyH_ready (rs := [13]) (by kernel_rfl) (by simp) ?_
    refine AllReadyH.cons (o := _) rfl (fun K hK => ?_) AllReadyH.nil
    go_simp
    refine hK.out _ _ ⟨aD _, aN _, ad _⟩ (fun _ => ?_)
    clear hK K
    try simp only [Act.put, List.setIfInBounds_toArray, List.set_cons_zero, List.set_cons_succ]
  case' way2 =>
    go_simp
    refine hK.out _ _ ⟨aD _, aN _, ad _⟩ (fun _ => ?_)
    clear hK K
    try simp only [Act.put, List.setIfInBounds_toArray, List.set_cons_zero, List.set_cons_succ]
    refine wpAnyH_ready (rs := [10]) (by kernel_rfl) (by simp) ?_
    refine AllReadyH.cons (o := _) rfl (fun K hK => ?_) AllReadyH.nil
    go_simp
    refine hK.out _ _ ⟨aD _, aN _, ad _⟩ (fun _ => ?_)
    clear hK K
    try simp only [Act.put, List.setIfInBounds_toArray, List.set_cons_zero, List.set_cons_succ]
  all_goals (
    refine wpAnyH_ready (rs := [14]) (by kernel_rfl) (by simp) ?_
    refine AllReadyH.cons (o := _) rfl (fun K hK => ?_) AllReadyH.nil
    refine step_append_at rfl (.tmp 30) (.tmp 33) 72 rfl w.heap.size 75 i0 (.agg #[.string ⟨#[]⟩, .slice none 0 0, .int .i64 0]) 3 48 Tryz.underlying72 hi hz0 hz1 hz2 rfl (by decide) (.slice none 0 0) 0 [] (by simp [Act.eval]) (World.ownsRow_nil _ _ _ _) ⟨w.heap.size, 0, none⟩ 1 1 [.string s, .slice none 0 0, .int .i64 0] (by simp [Act.eval]) rfl (jthree_new w.drew.drew _ _ _ _) (by simp [Value.oneCell']) (by unfold maxLen; omega) (by omega) (by simp) ?_
    intro v6 w6 hown6 hgrow6 hat6
    have HG6 : Hid (w.grownBy w6 none) := jgrown_trans (jgrown_trans (jgrown_trans (jgrown_drew w none) (jgrown_drew _ none)) (jgrown_alloc _ _ none)) hgrow6
    have eD := jcell_grown hD HG6.out (by simp)
    have eN := jcell_grown hN HG6.out (by simp)
    have eB := jcell_grown hB HG6.out (by simp)
    have ed := jcell_grown hd HG6.out (by simp)
    have ef := jcell_grown hf HG6.out (by simp)
    have efz : w6.frozen? ⟨x, 0, none⟩ = false := (World.frozen?_of_block (a := ⟨x, 0, none⟩) (HG6.out.block x (World.block_lt_of_cell? w ⟨x, 0, none⟩ hf) (by simp))).trans hfz
    have HO6 : Hid (w6.ownsRow w.heap.size 75 3 v6 1 [.string s, .slice none 0 0, .int .i64 0]) := by show World.ownsRow _ _ _ _ _ _ _; simpa using hown6
    clear hown6 hgrow6 hat6
    obtain ⟨F, cpF, hv6, hF1, hF2⟩ := jown_pos HO6.out (by omega)
    subst hv6
    have hS6 : w6.cell? ⟨D, 0, none⟩ = some (.pointer (some ⟨d, 0, none⟩)) ∧ w6.cell? ⟨N, 0, none⟩ = some (.string s) ∧ w6.cell? ⟨d, 0, none⟩ = some (.pointer (some ⟨x, 0, none⟩)) := ⟨eD, eN, ed⟩
    refine hK.out _ _ hS6 (fun _ => ?_)
    clear hK K
    try simp only [Act.put, List.setIfInBounds_toArray, List.set_cons_zero, List.set_cons_succ]
    refine wpAnyH_take (i := 15) (v := .pointer (some ⟨x, 0, none⟩)) rfl (by kernel_rfl) (by kernel_rfl) (by kernel_rfl) (fun _ _ _ h => h) (.inl ⟨by kernel_rfl, fun V hV => ?_⟩) hS6 ?_
    · obtain ⟨s0, s1, s2⟩ := hV
      go_simp
    try simp only [Act.put, List.setIfInBounds_toArray, List.set_cons_zero, List.set_cons_succ]
    refine wpAnyH_take (i := 16) (v := .pointer (some ⟨x, 0, none⟩)) rfl (by kernel_rfl) (by kernel_rfl) (by kernel_rfl) (fun _ _ _ h => h) (.inl ⟨by kernel_rfl, fun V hV => ?_⟩) hS6 ?_
    · obtain ⟨s0, s1, s2⟩ := hV
      go_simp
    try simp only [Act.put, List.setIfInBounds_toArray, List.set_cons_zero, List.set_cons_succ]
    refine wpAnyH_ready (rs := [17]) (by kernel_rfl) (by simp) ?_
    refine AllReadyH.cons (o := _) rfl (fun K hK => ?_) AllReadyH.nil
    go_simp
    refine hK.out _ _ ⟨jset_other eD (.inl hDx), jset_other eN (.inl hNx), jset_other ed (.inl hdx)⟩ (fun _ => ?_)
    clear hK K
    try simp only [Act.put, List.setIfInBounds_toArray, List.set_cons_zero, List.set_cons_succ]
    refine wpAnyH_done (by kernel_rfl) ?_ _
    have hDF : D ≠ F := by simp only at hDl; omega
    have hBF : B ≠ F := by simp only at hBl; omega
    have hdF : d ≠ F := by simp only at hdl; omega
    obtain ⟨W7, hW7⟩ : ∃ W, (w6.setCell ⟨x, 0, none⟩ (.slice (some ⟨F, 0, none⟩) 1 cpF)) = W := ⟨_, rfl⟩
    have hxl : x < w.heap.size := World.block_lt_of_cell? w ⟨x, 0, none⟩ hf
    have hFx : F ≠ x := by omega
    have gD : W7.cell? ⟨D, 0, none⟩ = some (.pointer (some ⟨d, 0, none⟩)) := by rw [← hW7]; exact jset_other eD (.inl hDx)
    have gB : W7.cell? ⟨B, 0, none⟩ = some (.slice (some ⟨gb, 0, none⟩) n c) := by rw [← hW7]; exact jset_other eB (.inl hBx)
    have gd : W7.cell? ⟨d, 0, none⟩ = some (.pointer (some ⟨x, 0, none⟩)) := by rw [← hW7]; exact jset_other ed (.inl hdx)
    have gx : W7.cell? ⟨x, 0, none⟩ = some (.slice (some ⟨F, 0, none⟩) 1 cpF) := by rw [← hW7]; exact World.cell?_setCell_same _ _ _ ef
    have hgr7 : w6.grownBy W7 (some x) := by rw [← hW7]; exact jgrown_set w6 x 0 _
    have HO7 : Hid (W7.ownsRow w.heap.size 75 3 (.slice (some ⟨F, 0, none⟩) 1 cpF) 1 [.string s, .slice none 0 0, .int .i64 0]) := World.ownsRow.kept HO6.out hgr7 (.inr (by simp [Value.ownBlock, hFx]))
    have HR7 : Hid (W7.ownsRow base 5 1 (.slice (some ⟨gb, 0, none⟩) n c) n bs) := World.ownsRow.kept (World.ownsRow.kept HRw.out.1 HG6.out (.inr (by simp [Value.ownBlock]))) hgr7 (.inr (by simp [Value.ownBlock, hgx]))
    have F1 : W7.cell? ⟨F, 1, none⟩ = some (.slice none 0 0) := World.ownsRow.cellAt HO7.out 1 (by omega)
    have Fz : W7.frozen? ⟨F, 1, none⟩ = false := World.ownsRow.frozenAt HO7.out 1
    have HG7 : Hid (w.grownBy W7 (some x)) := jgrown_trans (jgrown_none HG6.out) hgr7
    have HX7 : Hid (∀ j, j ≠ 0 → W7.cell? ⟨x, j, none⟩ = w.cell? ⟨x, j, none⟩) := fun j hj => by
      rw [← hW7, World.cell?_setCell_other _ _ _ _ (fun e => by cases e; exact hj rfl)]
      exact World.cell?_of_block (a := ⟨x, j, none⟩) (HG6.out.block x hxl (by simp))
    rw [hW7]
    clear hW7 hgr7 eD eN eB ed ef efz hS6 hS aD aN ad af
    go_wp2_with fail
    refine wp_region_held (S := fun V => V.cell? ⟨D, 0, none⟩ = some (.pointer (some ⟨d, 0, none⟩)) ∧ V.cell? ⟨B, 0, none⟩ = some (.slice (some ⟨gb, 0, none⟩) n c) ∧ V.cell? ⟨d, 0, none⟩ = some (.pointer (some ⟨x, 0, none⟩)) ∧ V.cell? ⟨x, 0, none⟩ = some (.slice (some ⟨F, 0, none⟩) 1 cpF)) (by kernel_rfl) ?_
    change wpAnyH _ _ _ _ _ _ _ _ W7.drew
    have hS4 : W7.drew.cell? ⟨D, 0, none⟩ = some (.pointer (some ⟨d, 0, none⟩)) ∧ W7.drew.cell? ⟨B, 0, none⟩ = some (.slice (some ⟨gb, 0, none⟩) n c) ∧ W7.drew.cell? ⟨d, 0, none⟩ = some (.pointer (some ⟨x, 0, none⟩)) ∧ W7.drew.cell? ⟨x, 0, none⟩ = some (.slice (some ⟨F, 0, none⟩) 1 cpF) := ⟨gD, gB, gd, gx⟩
    refine wpAnyH_take (i := 0) (v := .pointer (some ⟨d, 0, none⟩)) rfl (by kernel_rfl) (by kernel_rfl) (by kernel_rfl) (fun _ _ _ h => h) (.inl ⟨by kernel_rfl, fun V hV => ?_⟩) hS4 ?_
    · obtain ⟨s0, s1, s2, s3⟩ := hV
      go_simp
    try simp only [Act.put, List.setIfInBounds_toArray, List.set_cons_zero, List.set_cons_succ]
    refine wpAnyH_take (i := 1) (v := .pointer (some ⟨d, 0, none⟩)) rfl (by kernel_rfl) (by kernel_rfl) (by kernel_rfl) (fun _ _ _ h => h) (.inl ⟨by kernel_rfl, fun V hV => ?_⟩) hS4 ?_
    · obtain ⟨s0, s1, s2, s3⟩ := hV
      go_simp
    try simp only [Act.put, List.setIfInBounds_toArray, List.set_cons_zero, List.set_cons_succ]
    refine wpAnyH_take (i := 2) (v := .pointer (some ⟨d, 0, none⟩)) rfl (by kernel_rfl) (by kernel_rfl) (by kernel_rfl) (fun _ _ _ h => h) (.inl ⟨by kernel_rfl, fun V hV => ?_⟩) hS4 ?_
    · obtain ⟨s0, s1, s2, s3⟩ := hV
      go_simp
    try simp only [Act.put, List.setIfInBounds_toArray, List.set_cons_zero, List.set_cons_succ]
    refine wpAnyH_take (i := 3) (v := .pointer (some ⟨x, 0, none⟩)) rfl (by kernel_rfl) (by kernel_rfl) (by kernel_rfl) (fun _ _ _ h => h) (.inl ⟨by kernel_rfl, fun V hV => ?_⟩) hS4 ?_
    · obtain ⟨s0, s1, s2, s3⟩ := hV
      go_simp
    try simp only [Act.put, List.setIfInBounds_toArray, List.set_cons_zero, List.set_cons_succ]
    refine wpAnyH_take (i := 4) (v := .pointer (some ⟨x, 0, none⟩)) rfl (by kernel_rfl) (by kernel_rfl) (by kernel_rfl) (fun _ _ _ h => h) (.inl ⟨by kernel_rfl, fun V hV => ?_⟩) hS4 ?_
    · obtain ⟨s0, s1, s2, s3⟩ := hV
      go_simp
    try simp only [Act.put, List.setIfInBounds_toArray, List.set_cons_zero, List.set_cons_succ]
    refine wpAnyH_take (i := 5) (v := .pointer (some ⟨x, 0, none⟩)) rfl (by kernel_rfl) (by kernel_rfl) (by kernel_rfl) (fun _ _ _ h => h) (.inl ⟨by kernel_rfl, fun V hV => ?_⟩) hS4 ?_
    · obtain ⟨s0, s1, s2, s3⟩ := hV
      go_simp
    try simp only [Act.put, List.setIfInBounds_toArray, List.set_cons_zero, List.set_cons_succ]
    refine wpAnyH_take (i := 6) (v := .slice (some ⟨F, 0, none⟩) 1 cpF) rfl (by kernel_rfl) (by kernel_rfl) (by kernel_rfl) (fun _ _ _ h => h) (.inl ⟨by kernel_rfl, fun V hV => ?_⟩) hS4 ?_
    · obtain ⟨s0, s1, s2, s3⟩ := hV
      go_simp
    try simp only [Act.put, List.setIfInBounds_toArray, List.set_cons_zero, List.set_cons_succ]
    refine wpAnyH_take (i := 7) (v := .int .i64 0) rfl (by kernel_rfl) (by kernel_rfl) (by kernel_rfl) (fun _ _ _ h => h) (.inl ⟨by kernel_rfl, fun V hV => ?_⟩) hS4 ?_
    · obtain ⟨s0, s1, s2, s3⟩ := hV
      go_simp
    try simp only [Act.put, List.setIfInBounds_toArray, List.set_cons_zero, List.set_cons_succ]
    refine wpAnyH_take (i := 8) (v := .pointer (some ⟨d, 0, none⟩)) rfl (by kernel_rfl) (by kernel_rfl) (by kernel_rfl) (fun _ _ _ h => h) (.inl ⟨by kernel_rfl, fun V hV => ?_⟩) hS4 ?_
    · obtain ⟨s0, s1, s2, s3⟩ := hV
      go_simp
    try simp only [Act.put, List.setIfInBounds_toArray, List.set_cons_zero, List.set_cons_succ]
    refine wpAnyH_take (i := 9) (v := .pointer (some ⟨d, 0, none⟩)) rfl (by kernel_rfl) (by kernel_rfl) (by kernel_rfl) (fun _ _ _ h => h) (.inl ⟨by kernel_rfl, fun V hV => ?_⟩) hS4 ?_
    · obtain ⟨s0, s1, s2, s3⟩ := hV
      go_simp
    try simp only [Act.put, List.setIfInBounds_toArray, List.set_cons_zero, List.set_cons_succ]
    refine wpAnyH_take (i := 10) (v := .pointer (some ⟨d, 0, none⟩)) rfl (by kernel_rfl) (by kernel_rfl) (by kernel_rfl) (fun _ _ _ h => h) (.inl ⟨by kernel_rfl, fun V hV => ?_⟩) hS4 ?_
    · obtain ⟨s0, s1, s2, s3⟩ := hV
      go_simp
    try simp only [Act.put, List.setIfInBounds_toArray, List.set_cons_zero, List.set_cons_succ]
    refine wpAnyH_take (i := 11) (v := .pointer (some ⟨x, 0, none⟩)) rfl (by kernel_rfl) (by kernel_rfl) (by kernel_rfl) (fun _ _ _ h => h) (.inl ⟨by kernel_rfl, fun V hV => ?_⟩) hS4 ?_
    · obtain ⟨s0, s1, s2, s3⟩ := hV
      go_simp
    try simp only [Act.put, List.setIfInBounds_toArray, List.set_cons_zero, List.set_cons_succ]
    refine wpAnyH_take (i := 12) (v := .pointer (some ⟨x, 0, none⟩)) rfl (by kernel_rfl) (by kernel_rfl) (by kernel_rfl) (fun _ _ _ h => h) (.inl ⟨by kernel_rfl, fun V hV => ?_⟩) hS4 ?_
    · obtain ⟨s0, s1, s2, s3⟩ := hV
      go_simp
    try simp only [Act.put, List.setIfInBounds_toArray, List.set_cons_zero, List.set_cons_succ]
    refine wpAnyH_take (i := 13) (v := .pointer (some ⟨x, 0, none⟩)) rfl (by kernel_rfl) (by kernel_rfl) (by kernel_rfl) (fun _ _ _ h => h) (.inl ⟨by kernel_rfl, fun V hV => ?_⟩) hS4 ?_
    · obtain ⟨s0, s1, s2, s3⟩ := hV
      go_simp
    try simp only [Act.put, List.setIfInBounds_toArray, List.set_cons_zero, List.set_cons_succ]
    refine wpAnyH_take (i := 14) (v := .slice (some ⟨F, 0, none⟩) 1 cpF) rfl (by kernel_rfl) (by kernel_rfl) (by kernel_rfl) (fun _ _ _ h => h) (.inl ⟨by kernel_rfl, fun V hV => ?_⟩) hS4 ?_
    · obtain ⟨s0, s1, s2, s3⟩ := hV
      go_simp
    try simp only [Act.put, List.setIfInBounds_toArray, List.set_cons_zero, List.set_cons_succ]
    refine wpAnyH_take (i := 15) (v := .int .i64 0) rfl (by kernel_rfl) (by kernel_rfl) (by kernel_rfl) (fun _ _ _ h => h) (.inl ⟨by kernel_rfl, fun V hV => ?_⟩) hS4 ?_
    · obtain ⟨s0, s1, s2, s3⟩ := hV
      go_simp
    try simp only [Act.put, List.setIfInBounds_toArray, List.set_cons_zero, List.set_cons_succ]
    refine wpAnyH_take (i := 16) (v := .pointer (some ⟨F, 0, none⟩)) rfl (by kernel_rfl) (by kernel_rfl) (by kernel_rfl) (fun _ _ _ h => h) (.inl ⟨by kernel_rfl, fun V hV => ?_⟩) hS4 ?_
    · obtain ⟨s0, s1, s2, s3⟩ := hV
      go_simp
    try simp only [Act.put, List.setIfInBounds_toArray, List.set_cons_zero, List.set_cons_succ]
    refine wpAnyH_take (i := 17) (v := .pointer (some ⟨F, 1, none⟩)) rfl (by kernel_rfl) (by kernel_rfl) (by kernel_rfl) (fun _ _ _ h => h) (.inl ⟨by kernel_rfl, fun V hV => ?_⟩) hS4 ?_
    · obtain ⟨s0, s1, s2, s3⟩ := hV
      go_simp
    try simp only [Act.put, List.setIfInBounds_toArray, List.set_cons_zero, List.set_cons_succ]
    refine wpAnyH_take (i := 19) (v := .slice (some ⟨gb, 0, none⟩) n c) rfl (by kernel_rfl) (by kernel_rfl) (by kernel_rfl) (fun _ _ _ h => h) (.inl ⟨by kernel_rfl, fun V hV => ?_⟩) hS4 ?_
    · obtain ⟨s0, s1, s2, s3⟩ := hV
      go_simp
    try simp only [Act.put, List.setIfInBounds_toArray, List.set_cons_zero, List.set_cons_succ]
    refine wpAnyH_ready (rs := [18]) (by kernel_rfl) (by simp) ?_
    refine AllReadyH.cons (o := _) rfl (fun K hK => ?_) AllReadyH.nil
    go_simp
    refine hK.out _ _ hS4 (fun _ => ?_)
    clear hK K
    try simp only [Act.put, List.setIfInBounds_toArray, List.set_cons_zero, List.set_cons_succ]
    refine wpAnyH_ready (rs := [20]) (by kernel_rfl) (by simp) ?_
    refine AllReadyH.cons (o := _) rfl (fun K hK => ?_) AllReadyH.nil
    refine step_append_at rfl (.tmp 55) (.tmp 56) 35 rfl w.heap.size 5 iu (.int .u8 0) 1 1 Tryz.underlying35 hiu hy0 hy1 hy2 rfl (by decide) (.slice none 0 0) 0 [] (by simp [Act.eval]) (World.ownsRow_nil _ _ _ _) ⟨gb, 0, none⟩ n c bs (by simp [Act.eval]) (by have := HR7.out.1; rw [this]) (fun j u hj => World.ownsRow.cells (g := gb) HR7.out rfl j u hj) HRw.out.2 (by unfold maxLen; omega) (by omega) (by have := HG7.out.size; simp; omega) ?_
    intro v8 w8 hown8 hgrow8 hat8
    have HG8 : Hid (W7.grownBy w8 none) := jgrown_trans (jgrown_drew W7 none) hgrow8
    have k0 := jcell_grown gD HG8.out (by simp)
    have k1 := jcell_grown gB HG8.out (by simp)
    have k2 := jcell_grown gd HG8.out (by simp)
    have k3 := jcell_grown gx HG8.out (by simp)
    have k4 := jcell_grown F1 HG8.out (by simp)
    have kz : w8.frozen? ⟨F, 1, none⟩ = false := (World.frozen?_of_block (a := ⟨F, 1, none⟩) (HG8.out.block F (World.block_lt_of_cell? W7 ⟨F, 1, none⟩ F1) (by simp))).trans Fz
    have HO8 : Hid (w8.ownsRow w.heap.size 5 1 v8 n bs) := by show World.ownsRow _ _ _ _ _ _ _; simpa using hown8
    have hFl := World.block_lt_of_cell? W7 ⟨F, 1, none⟩ F1
    have hne8 : v8.ownBlock ≠ some F := by
      rcases hat8 with h | h
      · rw [h]; simp [Value.ownBlock]
      · rw [h]; intro e
        have e' := Option.some.inj e
        simp at e' hFl; omega
    clear hown8 hgrow8 hat8
    obtain ⟨ab, cb, hv8, hb1, hb2⟩ := jown_pos HO8.out hn0
    subst hv8
    have hS8 : w8.cell? ⟨D, 0, none⟩ = some (.pointer (some ⟨d, 0, none⟩)) ∧ w8.cell? ⟨B, 0, none⟩ = some (.slice (some ⟨gb, 0, none⟩) n c) ∧ w8.cell? ⟨d, 0, none⟩ = some (.pointer (some ⟨x, 0, none⟩)) ∧ w8.cell? ⟨x, 0, none⟩ = some (.slice (some ⟨F, 0, none⟩) 1 cpF) := ⟨k0, k1, k2, k3⟩
    refine hK.out _ _ hS8 (fun _ => ?_)
    clear hK K
    try simp only [Act.put, List.setIfInBounds_toArray, List.set_cons_zero, List.set_cons_succ]
    refine wpAnyH_take (i := 21) (v := .pointer (some ⟨F, 0, none⟩)) rfl (by kernel_rfl) (by kernel_rfl) (by kernel_rfl) (fun _ _ _ h => h) (.inl ⟨by kernel_rfl, fun V hV => ?_⟩) hS8 ?_
    · obtain ⟨s0, s1, s2, s3⟩ := hV
      go_simp
    try simp only [Act.put, List.setIfInBounds_toArray, List.set_cons_zero, List.set_cons_succ]
    refine wpAnyH_take (i := 22) (v := .pointer (some ⟨F, 1, none⟩)) rfl (by kernel_rfl) (by kernel_rfl) (by kernel_rfl) (fun _ _ _ h => h) (.inl ⟨by kernel_rfl, fun V hV => ?_⟩) hS8 ?_
    · obtain ⟨s0, s1, s2, s3⟩ := hV
      go_simp
    try simp only [Act.put, List.setIfInBounds_toArray, List.set_cons_zero, List.set_cons_succ]
    refine wpAnyH_ready (rs := [23]) (by kernel_rfl) (by simp) ?_
    refine AllReadyH.cons (o := _) rfl (fun K hK => ?_) AllReadyH.nil
    go_simp
    refine hK.out _ _ ⟨jset_other k0 (.inl hDF), jset_other k1 (.inl hBF), jset_other k2 (.inl hdF), jset_other k3 (.inl hFx.symm)⟩ (fun _ => ?_)
    clear hK K
    try simp only [Act.put, List.setIfInBounds_toArray, List.set_cons_zero, List.set_cons_succ]
    refine wpAnyH_done (by kernel_rfl) ?_ _
    go_wp2
    refine bodyPost_end (v := .tuple #[]) (by simp [results, Tryz.results58, go_sem]) rfl ?_
    refine ⟨⟨_, rfl⟩, ?_⟩
    have g9 := jgrown_set w8 F 1 (.slice (some ⟨ab, 0, none⟩) n cb)
    have o7 := World.ownsRow.kept HO7.out HG8.out (.inr (by simp [Value.ownBlock]))
    have F0 : w8.cell? ⟨F, 0, none⟩ = some (.string s) := World.ownsRow.cellAt o7 0 (by omega)
    have F2 : w8.cell? ⟨F, 2, none⟩ = some (.int .i64 0) := World.ownsRow.cellAt o7 2 (by omega)
    have o9 := (World.ownsRow.stored o7 1 (.slice (some ⟨ab, 0, none⟩) n cb)).1
    have hxx : ∀ j, (w8.setCell ⟨F, 1, none⟩ (.slice (some ⟨ab, 0, none⟩) n cb)).cell? ⟨x, j, none⟩ = W7.cell? ⟨x, j, none⟩ := fun j =>
      (World.cell?_of_block (a := ⟨x, j, none⟩) (g9.block x (Nat.lt_of_lt_of_le hxl (Nat.le_trans HG7.out.size HG8.out.size)) (by simp [hFx.symm]))).trans (World.cell?_of_block (a := ⟨x, j, none⟩) (HG8.out.block x (Nat.lt_of_lt_of_le hxl HG7.out.size) (by simp)))
    refine ⟨⟨F, cpF, some ⟨ab, 0, none⟩, cb, ⟨jset_other k3 (.inl hFx.symm), jset_other F0 (.inr (by omega)), World.cell?_setCell_same _ _ _ k4, jset_other F2 (.inr (by omega))⟩, hF1, (World.ownsRow.lt o9 F rfl).2, World.ownsRow.frozenAt o9 2, World.ownsRow.kept HO8.out g9 (.inr hne8)⟩, ?_, fun j hj => (hxx j).trans (HX7.out j hj)⟩
    refine ⟨g9.os.trans (HG8.out.os.trans HG7.out.os), g9.tape.trans (HG8.out.tape.trans HG7.out.tape), g9.output.trans (HG8.out.output.trans HG7.out.output), Nat.le_trans HG7.out.size (Nat.le_trans HG8.out.size g9.size), fun k hk hne => ?_⟩
    have hkF : some k ≠ some F := fun e => by have := Option.some.inj e; omega
    exact (g9.block k (Nat.lt_of_lt_of_le hk (Nat.le_trans HG7.out.size HG8.out.size)) hkF).trans ((HG8.out.block k (Nat.lt_of_lt_of_le hk HG7.out.size) (by simp)).trans (HG7.out.block k hk hne)))
end Go.Proofs.YtllhbhogfffedaaGreatDoor
