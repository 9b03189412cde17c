import Derived.Test.YtllhbhogfffedaaGreatDoorJkSfW
namespace Go.Proofs.YtllhbhogfffedaaGreatDoor.K
open Go.RowKit
attribute [local go_sem] Oper.semAt_some
set_option linter.unusedVariables false
set_option linter.unusedSimpArgs false

/-- An append of records that lie anywhere, as one operation of a region that draws. -/
theorem appR_opD {ops : Array Oper} {Q : Exit → Act → World → Prop} {j : Nat} {K : Act → World → Prop} {a : Act} {w : World} {o : Oper} (hj : ops[j]? = some o) (hgd : o.guard = none) (s x : Operand)
    (hop : o.op = Op.call { callee := Callee.builtin Builtin.append, args := #[s, x], argTypes := #[34, 34] }) (base : Nat)
    (v : Value) (n : Nat) (xs : List Value) (hs : a.eval s = v) (hown : w.ownsRow base 81 11 v n xs)
    (ab : Option Addr) (nb cb : Nat) (news : List Value) (hx : a.eval x = .slice ab nb cb) (hl : news.length = nb * 11) (hz : ∀ ad, ab = some ad → ∀ j u, news[j]? = some u → w.cell? (ad.add j) = some u) (h1 : ∀ u ∈ news, u.oneCell' = true) (hnn : ab = none → nb = 0 ∧ cb = 0) (hb : n + nb ≤ 1099511627776) (hbase : base ≤ w.heap.size)
    (hK : ∀ v' w', w'.ownsRow base 81 11 v' (n + nb) (xs ++ news) → w.grownBy w' v.ownBlock → (v'.ownBlock = v.ownBlock ∨ v'.ownBlock = some w.heap.size) → K (a.put o.dst v') w') : wpOp Tryz.prog ops Q j K a w := by
  obtain ⟨i0, hi, hz0, hz1, hz2⟩ := info_parts Tryz.info_rec
  cases ab with
  | none =>
    obtain ⟨rfl, rfl⟩ := hnn rfl
    have hn' : news = [] := List.eq_nil_of_length_eq_zero (by simpa using hl)
    subst hn'
    exact app_nilD hj hgd s x 34 hop base 81 i0 11 Tryz.underlying34 hi v n xs hs hown hx (hK v w (by simpa using hown) ⟨rfl, rfl, rfl, Nat.le_refl _, fun _ _ _ => rfl⟩ (.inl rfl))
  | some ad =>
    exact app_opD hj hgd s x 34 hop base 81 i0 _ 11 120 Tryz.underlying34 hi hz0 hz1 hz2 rfl (by decide) v n xs hs hown ad nb cb news hx hl (hz ad rfl) h1 (by unfold maxLen; omega) (by omega) hbase hK

def regB16Ops : Array Oper := #[⟨some 57, .move (.tmp 0), 49, "law.go:349", #[], none⟩,
  ⟨some 58, .move (.tmp 0), 49, "law.go:349", #[], none⟩,
  ⟨some 59, .nilCheck (.tmp 58), 0, "law.go:349", #[⟨1, .data⟩], none⟩,
  ⟨some 60, .fieldAddr 51 (.tmp 59) 1, 0, "law.go:349", #[⟨2, .data⟩], none⟩,
  ⟨some 61, .load 34 (.tmp 60), 34, "law.go:349", #[⟨3, .data⟩], none⟩,
  ⟨some 62, .fieldAddr 54 (.tmp 5) 0, 0, "law.go:349", #[], none⟩,
  ⟨some 63, .load 34 (.tmp 62), 34, "law.go:349", #[⟨5, .data⟩], none⟩,
  ⟨some 64, .call { callee := Callee.builtin Builtin.append, args := #[.tmp 61, .tmp 63], argTypes := #[34, 34] }, 34, "law.go:349", #[⟨4, .data⟩, ⟨6, .data⟩], none⟩,
  ⟨some 65, .nilCheck (.tmp 57), 0, "law.go:349", #[⟨0, .data⟩, ⟨0, .phase⟩, ⟨1, .phase⟩, ⟨2, .phase⟩, ⟨3, .phase⟩, ⟨4, .phase⟩, ⟨5, .phase⟩, ⟨6, .phase⟩, ⟨7, .phase⟩], none⟩,
  ⟨some 66, .fieldAddr 51 (.tmp 65) 1, 0, "law.go:349", #[⟨8, .data⟩, ⟨0, .phase⟩, ⟨1, .phase⟩, ⟨2, .phase⟩, ⟨3, .phase⟩, ⟨4, .phase⟩, ⟨5, .phase⟩, ⟨6, .phase⟩, ⟨7, .phase⟩], none⟩,
  ⟨none, .store 34 (.tmp 66) (.tmp 64), 0, "law.go:349", #[⟨9, .data⟩, ⟨7, .data⟩, ⟨7, .chain⟩, ⟨0, .phase⟩, ⟨1, .phase⟩, ⟨2, .phase⟩, ⟨3, .phase⟩, ⟨4, .phase⟩, ⟨5, .phase⟩, ⟨6, .phase⟩, ⟨7, .phase⟩], none⟩]
set_option maxRecDepth 100000 in
set_option maxHeartbeats 4000000 in
theorem regB16 (Q : Exit → Act → World → Prop) (kb bb : Nat) (av : Option Addr) (nv cv n base : Nat) (ab : Option Addr) (nb cb : Nat) (news : List Value) (cur : Array Value) (xs : List Value) {t1 t2 t3 t4 t6 t7 t8 t9 t10 t11 t12 t13 t14 t15 t16 t17 t18 t19 t20 t21 t22 t23 t24 t25 t26 t27 t28 t29 t30 t31 t32 t33 t34 t35 t36 t37 t38 t39 t40 t41 t42 t43 t44 t45 t46 t47 t48 t49 t50 t51 t52 t53 t54 t55 t56 t57 t58 t59 t60 t61 t62 t63 t64 t65 t66 t67 t68 t69 t70 t71 t72 t73 t74 t75 t76 t77 t78 t79 t80 t81 t82 t83 t84 t85 t86 t87 t88 t89 t90 t91 t92 t93 t94 t95 t96 t97 t98 t99 t100 t101 t102 t103 t104 t105 t106 t107 : Value} (W : World)
    (hown : W.ownsRow base 81 11 (.slice av nv cv) n xs) (hl : news.length = nb * 11) (hz : ∀ ad, ab = some ad → ∀ j u, news[j]? = some u → W.drew.cell? (ad.add j) = some u) (h1 : ∀ u ∈ news, u.oneCell' = true) (hnn : ab = none → nb = 0 ∧ cb = 0) (hb : n + nb ≤ 1099511627776) (hbase : base ≤ W.heap.size) (hB : W.heap[kb]? = some (.cells cur 51 (0, 0))) (hb0' : cur[1]? = some (.slice av nv cv)) (hne : (Value.slice av nv cv).ownBlock ≠ some kb)
    (hcv : ∀ V, W.drew.grownBy V (Value.slice av nv cv).ownBlock → V.cell? ⟨bb, 0, none⟩ = some (.slice ab nb cb)) (hcw : ∀ V, W.drew.grownBy V (Value.slice av nv cv).ownBlock → ∀ y, (V.setCell ⟨kb, 1, none⟩ y).cell? ⟨bb, 0, none⟩ = some (.slice ab nb cb))
    (h : ∀ v' w', w'.ownsRow base 81 11 v' (n + nb) (xs ++ news) → W.drew.grownBy w' (Value.slice av nv cv).ownBlock → (v'.ownBlock = (Value.slice av nv cv).ownBlock ∨ ∃ g, v'.ownBlock = some g ∧ W.heap.size ≤ g) → w'.heap[kb]? = some (.cells cur 51 (0, 0)) → Q .normal { tmps := (.pointer (some ⟨kb, 0, none⟩) :: t1 :: t2 :: t3 :: t4 :: .pointer (some ⟨bb, 0, none⟩) :: t6 :: t7 :: t8 :: t9 :: t10 :: t11 :: t12 :: t13 :: t14 :: t15 :: t16 :: t17 :: t18 :: t19 :: t20 :: t21 :: t22 :: t23 :: t24 :: t25 :: t26 :: t27 :: t28 :: t29 :: t30 :: t31 :: t32 :: t33 :: t34 :: t35 :: t36 :: t37 :: t38 :: t39 :: t40 :: t41 :: t42 :: t43 :: t44 :: t45 :: t46 :: t47 :: t48 :: t49 :: t50 :: t51 :: t52 :: t53 :: t54 :: t55 :: t56 :: .pointer (some ⟨kb, 0, none⟩) :: .pointer (some ⟨kb, 0, none⟩) :: .pointer (some ⟨kb, 0, none⟩) :: .pointer (some ⟨kb, 1, none⟩) :: .slice av nv cv :: .pointer (some ⟨bb, 0, none⟩) :: .slice ab nb cb :: v' :: .pointer (some ⟨kb, 0, none⟩) :: .pointer (some ⟨kb, 1, none⟩) :: t67 :: t68 :: t69 :: t70 :: t71 :: t72 :: t73 :: t74 :: t75 :: t76 :: t77 :: t78 :: t79 :: t80 :: t81 :: t82 :: t83 :: t84 :: t85 :: t86 :: t87 :: t88 :: t89 :: t90 :: t91 :: t92 :: t93 :: t94 :: t95 :: t96 :: t97 :: t98 :: t99 :: t100 :: t101 :: t102 :: t103 :: t104 :: t105 :: t106 :: t107 :: []).toArray, defers := [] } (w'.setCell ⟨kb, 1, none⟩ v')) :
    (Code.region 16 regB16Ops true).wp Tryz.prog Q { tmps := (.pointer (some ⟨kb, 0, none⟩) :: t1 :: t2 :: t3 :: t4 :: .pointer (some ⟨bb, 0, none⟩) :: t6 :: t7 :: t8 :: t9 :: t10 :: t11 :: t12 :: t13 :: t14 :: t15 :: t16 :: t17 :: t18 :: t19 :: t20 :: t21 :: t22 :: t23 :: t24 :: t25 :: t26 :: t27 :: t28 :: t29 :: t30 :: t31 :: t32 :: t33 :: t34 :: t35 :: t36 :: t37 :: t38 :: t39 :: t40 :: t41 :: t42 :: t43 :: t44 :: t45 :: t46 :: t47 :: t48 :: t49 :: t50 :: t51 :: t52 :: t53 :: t54 :: t55 :: t56 :: t57 :: t58 :: t59 :: t60 :: t61 :: t62 :: t63 :: t64 :: t65 :: t66 :: t67 :: t68 :: t69 :: t70 :: t71 :: t72 :: t73 :: t74 :: t75 :: t76 :: t77 :: t78 :: t79 :: t80 :: t81 :: t82 :: t83 :: t84 :: t85 :: t86 :: t87 :: t88 :: t89 :: t90 :: t91 :: t92 :: t93 :: t94 :: t95 :: t96 :: t97 :: t98 :: t99 :: t100 :: t101 :: t102 :: t103 :: t104 :: t105 :: t106 :: t107 :: []).toArray, defers := [] } W := by
  refine Code.wp_mono (fun _ _ _ h => calmD_le h) ?_
  have hp : ∀ c a a' w, calmD Q (.panic c) a w → calmD Q (.panic c) a' w := fun _ _ _ _ h => h
  refine wp_region_held (S := fun V => V.cell? ⟨bb, 0, none⟩ = some (.slice ab nb cb)) (by kernel_rfl) ?_
  change wpAnyH _ _ _ _ _ _ _ _ W.drew
  have hS := hcv W.drew ⟨rfl, rfl, rfl, Nat.le_refl _, fun _ _ _ => rfl⟩
  have hb0 : W.drew.cell? ⟨kb, 1, none⟩ = some (.slice av nv cv) := (cell_of_row _ _ 1 _ _ _ (show W.drew.heap[kb]? = _ from hB)).trans hb0'
  refine wpAnyH_take (i := 0) (oi := ⟨some 57, .move (.tmp 0), 49, "law.go:349", #[], none⟩) (v := .pointer (some ⟨kb, 0, none⟩)) rfl (by kernel_rfl) (by kernel_rfl) (by kernel_rfl) (fun _ _ _ h => hp _ _ _ _ h) (.inl ⟨by kernel_rfl, fun V hV => ?_⟩) hS ?_
  · have s0 := hV
    try obtain ⟨s1, s2⟩ := s0
    go_split_ands
    go_simp
    all_goals (first | assumption | skip)
  simp only [Act.put, List.setIfInBounds_toArray, List.set_cons_zero, List.set_cons_succ]
  refine wpAnyH_take (i := 1) (oi := ⟨some 58, .move (.tmp 0), 49, "law.go:349", #[], none⟩) (v := .pointer (some ⟨kb, 0, none⟩)) rfl (by kernel_rfl) (by kernel_rfl) (by kernel_rfl) (fun _ _ _ h => hp _ _ _ _ h) (.inl ⟨by kernel_rfl, fun V hV => ?_⟩) hS ?_
  · have s0 := hV
    try obtain ⟨s1, s2⟩ := s0
    go_split_ands
    go_simp
    all_goals (first | assumption | skip)
  simp only [Act.put, List.setIfInBounds_toArray, List.set_cons_zero, List.set_cons_succ]
  refine wpAnyH_take (i := 2) (oi := ⟨some 59, .nilCheck (.tmp 58), 0, "law.go:349", #[⟨1, .data⟩], none⟩) (v := .pointer (some ⟨kb, 0, none⟩)) rfl (by kernel_rfl) (by kernel_rfl) (by kernel_rfl) (fun _ _ _ h => hp _ _ _ _ h) (.inl ⟨by kernel_rfl, fun V hV => ?_⟩) hS ?_
  · have s0 := hV
    try obtain ⟨s1, s2⟩ := s0
    go_split_ands
    go_simp
    all_goals (first | assumption | skip)
  simp only [Act.put, List.setIfInBounds_toArray, List.set_cons_zero, List.set_cons_succ]
  refine wpAnyH_take (i := 3) (oi := ⟨some 60, .fieldAddr 51 (.tmp 59) 1, 0, "law.go:349", #[⟨2, .data⟩], none⟩) (v := .pointer (some ⟨kb, 1, none⟩)) rfl (by kernel_rfl) (by kernel_rfl) (by kernel_rfl) (fun _ _ _ h => hp _ _ _ _ h) (.inl ⟨by kernel_rfl, fun V hV => ?_⟩) hS ?_
  · have s0 := hV
    try obtain ⟨s1, s2⟩ := s0
    go_split_ands
    go_simp
    all_goals (first | assumption | skip)
  simp only [Act.put, List.setIfInBounds_toArray, List.set_cons_zero, List.set_cons_succ]
  refine wpAnyH_take (i := 5) (oi := ⟨some 62, .fieldAddr 54 (.tmp 5) 0, 0, "law.go:349", #[], none⟩) (v := .pointer (some ⟨bb, 0, none⟩)) rfl (by kernel_rfl) (by kernel_rfl) (by kernel_rfl) (fun _ _ _ h => hp _ _ _ _ h) (.inl ⟨by kernel_rfl, fun V hV => ?_⟩) hS ?_
  · have s0 := hV
    try obtain ⟨s1, s2⟩ := s0
    go_split_ands
    go_simp
    all_goals (first | assumption | skip)
  simp only [Act.put, List.setIfInBounds_toArray, List.set_cons_zero, List.set_cons_succ]
  refine wpAnyH_take (i := 6) (oi := ⟨some 63, .load 34 (.tmp 62), 34, "law.go:349", #[⟨5, .data⟩], none⟩) (v := .slice ab nb cb) rfl (by kernel_rfl) (by kernel_rfl) (by kernel_rfl) (fun _ _ _ h => hp _ _ _ _ h) (.inl ⟨by kernel_rfl, fun V hV => ?_⟩) hS ?_
  · have s0 := hV
    try obtain ⟨s1, s2⟩ := s0
    go_split_ands
    go_simp
    all_goals (first | assumption | skip)
  simp only [Act.put, List.setIfInBounds_toArray, List.set_cons_zero, List.set_cons_succ]
  refine wpAnyH_ready (rs := [4]) (by kernel_rfl) (by simp) ?_
  refine (AllReadyH.cons (o := ⟨some 61, .load 34 (.tmp 60), 34, "law.go:349", #[⟨3, .data⟩], none⟩) rfl (fun K hK => ?_) AllReadyH.nil)
  go_simp
  refine hK.out _ _ hS (fun _ => ?_)
  clear hK K
  try simp only [Act.put, List.setIfInBounds_toArray, List.set_cons_zero, List.set_cons_succ]
  refine wpAnyH_all (rs := [7]) (by kernel_rfl) (by simp) ?_
  intro i hiX
  obtain rfl : i = 7 := by simpa using hiX
  refine appR_opD (j := 7) (o := ⟨some 64, .call { callee := Callee.builtin Builtin.append, args := #[.tmp 61, .tmp 63], argTypes := #[34, 34] }, 34, "law.go:349", #[⟨4, .data⟩, ⟨6, .data⟩], none⟩) rfl rfl (.tmp 61) (.tmp 63) rfl base (.slice av nv cv) n xs (by simp [Act.eval]) (w := W.drew) hown ab nb cb news (by simp [Act.eval]) hl hz h1 hnn (by omega) hbase ?_
  intro v' w' r1 r2 r3
  have hS2 := hcv w' r2
  refine ⟨hS2, ?_⟩
  have hQ' : w'.heap[kb]? = some (.cells cur 51 (0, 0)) := (r2.block kb (Array.getElem?_eq_some_iff.1 hB).1 (fun e => hne e.symm)).trans hB
  have hfz : w'.frozen? ⟨kb, 1, none⟩ = false := frozen_of_row _ _ 1 _ _ hQ'
  have hbv : w'.cell? ⟨kb, 1, none⟩ = some (.slice av nv cv) := (cell_of_row _ _ 1 _ _ _ hQ').trans hb0'
  have hfin := h v' w' r1 r2 (r3.imp id (fun e => ⟨_, e, by simp⟩)) hQ'
  obtain ⟨a1, n1, rfl⟩ := d_shape r1
  try simp only [Act.put, List.setIfInBounds_toArray, List.set_cons_zero, List.set_cons_succ]
  refine wpAnyH_take (i := 8) (oi := ⟨some 65, .nilCheck (.tmp 57), 0, "law.go:349", #[⟨0, .data⟩, ⟨0, .phase⟩, ⟨1, .phase⟩, ⟨2, .phase⟩, ⟨3, .phase⟩, ⟨4, .phase⟩, ⟨5, .phase⟩, ⟨6, .phase⟩, ⟨7, .phase⟩], none⟩) (v := .pointer (some ⟨kb, 0, none⟩)) rfl (by kernel_rfl) (by kernel_rfl) (by kernel_rfl) (fun _ _ _ h => hp _ _ _ _ h) (.inl ⟨by kernel_rfl, fun V hV => ?_⟩) hS2 ?_
  · have s0 := hV
    try obtain ⟨s1, s2⟩ := s0
    go_split_ands
    go_simp
    all_goals (first | assumption | skip)
  simp only [Act.put, List.setIfInBounds_toArray, List.set_cons_zero, List.set_cons_succ]
  refine wpAnyH_take (i := 9) (oi := ⟨some 66, .fieldAddr 51 (.tmp 65) 1, 0, "law.go:349", #[⟨8, .data⟩, ⟨0, .phase⟩, ⟨1, .phase⟩, ⟨2, .phase⟩, ⟨3, .phase⟩, ⟨4, .phase⟩, ⟨5, .phase⟩, ⟨6, .phase⟩, ⟨7, .phase⟩], none⟩) (v := .pointer (some ⟨kb, 1, none⟩)) rfl (by kernel_rfl) (by kernel_rfl) (by kernel_rfl) (fun _ _ _ h => hp _ _ _ _ h) (.inl ⟨by kernel_rfl, fun V hV => ?_⟩) hS2 ?_
  · have s0 := hV
    try obtain ⟨s1, s2⟩ := s0
    go_split_ands
    go_simp
    all_goals (first | assumption | skip)
  simp only [Act.put, List.setIfInBounds_toArray, List.set_cons_zero, List.set_cons_succ]
  refine wpAnyH_ready (rs := [10]) (by kernel_rfl) (by simp) ?_
  refine (AllReadyH.cons (o := ⟨none, .store 34 (.tmp 66) (.tmp 64), 0, "law.go:349", #[⟨9, .data⟩, ⟨7, .data⟩, ⟨7, .chain⟩, ⟨0, .phase⟩, ⟨1, .phase⟩, ⟨2, .phase⟩, ⟨3, .phase⟩, ⟨4, .phase⟩, ⟨5, .phase⟩, ⟨6, .phase⟩, ⟨7, .phase⟩], none⟩) rfl (fun K hK => ?_) AllReadyH.nil)
  go_simp
  refine hK.out _ _ (hcw w' r2 _) (fun _ => ?_)
  clear hK K
  try simp only [Act.put, List.setIfInBounds_toArray, List.set_cons_zero, List.set_cons_succ]
  exact wpAnyH_done (Q := calmD Q) (by kernel_rfl) hfin _

def regB24Ops : Array Oper := #[⟨some 81, .move (.tmp 0), 49, "law.go:361", #[], none⟩,
  ⟨some 82, .move (.tmp 0), 49, "law.go:361", #[], none⟩,
  ⟨some 83, .nilCheck (.tmp 82), 0, "law.go:361", #[⟨1, .data⟩], none⟩,
  ⟨some 84, .fieldAddr 51 (.tmp 83) 1, 0, "law.go:361", #[⟨2, .data⟩], none⟩,
  ⟨some 85, .load 34 (.tmp 84), 34, "law.go:361", #[⟨3, .data⟩], none⟩,
  ⟨some 86, .fieldAddr 54 (.tmp 5) 0, 0, "law.go:361", #[], none⟩,
  ⟨some 87, .load 34 (.tmp 86), 34, "law.go:361", #[⟨5, .data⟩], none⟩,
  ⟨some 88, .call { callee := Callee.builtin Builtin.append, args := #[.tmp 85, .tmp 87], argTypes := #[34, 34] }, 34, "law.go:361", #[⟨4, .data⟩, ⟨6, .data⟩], none⟩,
  ⟨some 89, .nilCheck (.tmp 81), 0, "law.go:361", #[⟨0, .data⟩, ⟨0, .phase⟩, ⟨1, .phase⟩, ⟨2, .phase⟩, ⟨3, .phase⟩, ⟨4, .phase⟩, ⟨5, .phase⟩, ⟨6, .phase⟩, ⟨7, .phase⟩], none⟩,
  ⟨some 90, .fieldAddr 51 (.tmp 89) 1, 0, "law.go:361", #[⟨8, .data⟩, ⟨0, .phase⟩, ⟨1, .phase⟩, ⟨2, .phase⟩, ⟨3, .phase⟩, ⟨4, .phase⟩, ⟨5, .phase⟩, ⟨6, .phase⟩, ⟨7, .phase⟩], none⟩,
  ⟨none, .store 34 (.tmp 90) (.tmp 88), 0, "law.go:361", #[⟨9, .data⟩, ⟨7, .data⟩, ⟨7, .chain⟩, ⟨0, .phase⟩, ⟨1, .phase⟩, ⟨2, .phase⟩, ⟨3, .phase⟩, ⟨4, .phase⟩, ⟨5, .phase⟩, ⟨6, .phase⟩, ⟨7, .phase⟩], none⟩]
set_option maxRecDepth 100000 in
set_option maxHeartbeats 4000000 in
theorem regB24 (Q : Exit → Act → World → Prop) (kb bb : Nat) (av : Option Addr) (nv cv n base : Nat) (ab : Option Addr) (nb cb : Nat) (news : List Value) (cur : Array Value) (xs : List Value) {t1 t2 t3 t4 t6 t7 t8 t9 t10 t11 t12 t13 t14 t15 t16 t17 t18 t19 t20 t21 t22 t23 t24 t25 t26 t27 t28 t29 t30 t31 t32 t33 t34 t35 t36 t37 t38 t39 t40 t41 t42 t43 t44 t45 t46 t47 t48 t49 t50 t51 t52 t53 t54 t55 t56 t57 t58 t59 t60 t61 t62 t63 t64 t65 t66 t67 t68 t69 t70 t71 t72 t73 t74 t75 t76 t77 t78 t79 t80 t81 t82 t83 t84 t85 t86 t87 t88 t89 t90 t91 t92 t93 t94 t95 t96 t97 t98 t99 t100 t101 t102 t103 t104 t105 t106 t107 : Value} (W : World)
    (hown : W.ownsRow base 81 11 (.slice av nv cv) n xs) (hl : news.length = nb * 11) (hz : ∀ ad, ab = some ad → ∀ j u, news[j]? = some u → W.drew.cell? (ad.add j) = some u) (h1 : ∀ u ∈ news, u.oneCell' = true) (hnn : ab = none → nb = 0 ∧ cb = 0) (hb : n + nb ≤ 1099511627776) (hbase : base ≤ W.heap.size) (hB : W.heap[kb]? = some (.cells cur 51 (0, 0))) (hb0' : cur[1]? = some (.slice av nv cv)) (hne : (Value.slice av nv cv).ownBlock ≠ some kb)
    (hcv : ∀ V, W.drew.grownBy V (Value.slice av nv cv).ownBlock → V.cell? ⟨bb, 0, none⟩ = some (.slice ab nb cb)) (hcw : ∀ V, W.drew.grownBy V (Value.slice av nv cv).ownBlock → ∀ y, (V.setCell ⟨kb, 1, none⟩ y).cell? ⟨bb, 0, none⟩ = some (.slice ab nb cb))
    (h : ∀ v' w', w'.ownsRow base 81 11 v' (n + nb) (xs ++ news) → W.drew.grownBy w' (Value.slice av nv cv).ownBlock → (v'.ownBlock = (Value.slice av nv cv).ownBlock ∨ ∃ g, v'.ownBlock = some g ∧ W.heap.size ≤ g) → w'.heap[kb]? = some (.cells cur 51 (0, 0)) → Q .normal { tmps := (.pointer (some ⟨kb, 0, none⟩) :: t1 :: t2 :: t3 :: t4 :: .pointer (some ⟨bb, 0, none⟩) :: t6 :: t7 :: t8 :: t9 :: t10 :: t11 :: t12 :: t13 :: t14 :: t15 :: t16 :: t17 :: t18 :: t19 :: t20 :: t21 :: t22 :: t23 :: t24 :: t25 :: t26 :: t27 :: t28 :: t29 :: t30 :: t31 :: t32 :: t33 :: t34 :: t35 :: t36 :: t37 :: t38 :: t39 :: t40 :: t41 :: t42 :: t43 :: t44 :: t45 :: t46 :: t47 :: t48 :: t49 :: t50 :: t51 :: t52 :: t53 :: t54 :: t55 :: t56 :: t57 :: t58 :: t59 :: t60 :: t61 :: t62 :: t63 :: t64 :: t65 :: t66 :: t67 :: t68 :: t69 :: t70 :: t71 :: t72 :: t73 :: t74 :: t75 :: t76 :: t77 :: t78 :: t79 :: t80 :: .pointer (some ⟨kb, 0, none⟩) :: .pointer (some ⟨kb, 0, none⟩) :: .pointer (some ⟨kb, 0, none⟩) :: .pointer (some ⟨kb, 1, none⟩) :: .slice av nv cv :: .pointer (some ⟨bb, 0, none⟩) :: .slice ab nb cb :: v' :: .pointer (some ⟨kb, 0, none⟩) :: .pointer (some ⟨kb, 1, none⟩) :: t91 :: t92 :: t93 :: t94 :: t95 :: t96 :: t97 :: t98 :: t99 :: t100 :: t101 :: t102 :: t103 :: t104 :: t105 :: t106 :: t107 :: []).toArray, defers := [] } (w'.setCell ⟨kb, 1, none⟩ v')) :
    (Code.region 24 regB24Ops true).wp Tryz.prog Q { tmps := (.pointer (some ⟨kb, 0, none⟩) :: t1 :: t2 :: t3 :: t4 :: .pointer (some ⟨bb, 0, none⟩) :: t6 :: t7 :: t8 :: t9 :: t10 :: t11 :: t12 :: t13 :: t14 :: t15 :: t16 :: t17 :: t18 :: t19 :: t20 :: t21 :: t22 :: t23 :: t24 :: t25 :: t26 :: t27 :: t28 :: t29 :: t30 :: t31 :: t32 :: t33 :: t34 :: t35 :: t36 :: t37 :: t38 :: t39 :: t40 :: t41 :: t42 :: t43 :: t44 :: t45 :: t46 :: t47 :: t48 :: t49 :: t50 :: t51 :: t52 :: t53 :: t54 :: t55 :: t56 :: t57 :: t58 :: t59 :: t60 :: t61 :: t62 :: t63 :: t64 :: t65 :: t66 :: t67 :: t68 :: t69 :: t70 :: t71 :: t72 :: t73 :: t74 :: t75 :: t76 :: t77 :: t78 :: t79 :: t80 :: t81 :: t82 :: t83 :: t84 :: t85 :: t86 :: t87 :: t88 :: t89 :: t90 :: t91 :: t92 :: t93 :: t94 :: t95 :: t96 :: t97 :: t98 :: t99 :: t100 :: t101 :: t102 :: t103 :: t104 :: t105 :: t106 :: t107 :: []).toArray, defers := [] } W := by
  refine Code.wp_mono (fun _ _ _ h => calmD_le h) ?_
  have hp : ∀ c a a' w, calmD Q (.panic c) a w → calmD Q (.panic c) a' w := fun _ _ _ _ h => h
  refine wp_region_held (S := fun V => V.cell? ⟨bb, 0, none⟩ = some (.slice ab nb cb)) (by kernel_rfl) ?_
  change wpAnyH _ _ _ _ _ _ _ _ W.drew
  have hS := hcv W.drew ⟨rfl, rfl, rfl, Nat.le_refl _, fun _ _ _ => rfl⟩
  have hb0 : W.drew.cell? ⟨kb, 1, none⟩ = some (.slice av nv cv) := (cell_of_row _ _ 1 _ _ _ (show W.drew.heap[kb]? = _ from hB)).trans hb0'
  refine wpAnyH_take (i := 0) (oi := ⟨some 81, .move (.tmp 0), 49, "law.go:361", #[], none⟩) (v := .pointer (some ⟨kb, 0, none⟩)) rfl (by kernel_rfl) (by kernel_rfl) (by kernel_rfl) (fun _ _ _ h => hp _ _ _ _ h) (.inl ⟨by kernel_rfl, fun V hV => ?_⟩) hS ?_
  · have s0 := hV
    try obtain ⟨s1, s2⟩ := s0
    go_split_ands
    go_simp
    all_goals (first | assumption | skip)
  simp only [Act.put, List.setIfInBounds_toArray, List.set_cons_zero, List.set_cons_succ]
  refine wpAnyH_take (i := 1) (oi := ⟨some 82, .move (.tmp 0), 49, "law.go:361", #[], none⟩) (v := .pointer (some ⟨kb, 0, none⟩)) rfl (by kernel_rfl) (by kernel_rfl) (by kernel_rfl) (fun _ _ _ h => hp _ _ _ _ h) (.inl ⟨by kernel_rfl, fun V hV => ?_⟩) hS ?_
  · have s0 := hV
    try obtain ⟨s1, s2⟩ := s0
    go_split_ands
    go_simp
    all_goals (first | assumption | skip)
  simp only [Act.put, List.setIfInBounds_toArray, List.set_cons_zero, List.set_cons_succ]
  refine wpAnyH_take (i := 2) (oi := ⟨some 83, .nilCheck (.tmp 82), 0, "law.go:361", #[⟨1, .data⟩], none⟩) (v := .pointer (some ⟨kb, 0, none⟩)) rfl (by kernel_rfl) (by kernel_rfl) (by kernel_rfl) (fun _ _ _ h => hp _ _ _ _ h) (.inl ⟨by kernel_rfl, fun V hV => ?_⟩) hS ?_
  · have s0 := hV
    try obtain ⟨s1, s2⟩ := s0
    go_split_ands
    go_simp
    all_goals (first | assumption | skip)
  simp only [Act.put, List.setIfInBounds_toArray, List.set_cons_zero, List.set_cons_succ]
  refine wpAnyH_take (i := 3) (oi := ⟨some 84, .fieldAddr 51 (.tmp 83) 1, 0, "law.go:361", #[⟨2, .data⟩], none⟩) (v := .pointer (some ⟨kb, 1, none⟩)) rfl (by kernel_rfl) (by kernel_rfl) (by kernel_rfl) (fun _ _ _ h => hp _ _ _ _ h) (.inl ⟨by kernel_rfl, fun V hV => ?_⟩) hS ?_
  · have s0 := hV
    try obtain ⟨s1, s2⟩ := s0
    go_split_ands
    go_simp
    all_goals (first | assumption | skip)
  simp only [Act.put, List.setIfInBounds_toArray, List.set_cons_zero, List.set_cons_succ]
  refine wpAnyH_take (i := 5) (oi := ⟨some 86, .fieldAddr 54 (.tmp 5) 0, 0, "law.go:361", #[], none⟩) (v := .pointer (some ⟨bb, 0, none⟩)) rfl (by kernel_rfl) (by kernel_rfl) (by kernel_rfl) (fun _ _ _ h => hp _ _ _ _ h) (.inl ⟨by kernel_rfl, fun V hV => ?_⟩) hS ?_
  · have s0 := hV
    try obtain ⟨s1, s2⟩ := s0
    go_split_ands
    go_simp
    all_goals (first | assumption | skip)
  simp only [Act.put, List.setIfInBounds_toArray, List.set_cons_zero, List.set_cons_succ]
  refine wpAnyH_take (i := 6) (oi := ⟨some 87, .load 34 (.tmp 86), 34, "law.go:361", #[⟨5, .data⟩], none⟩) (v := .slice ab nb cb) rfl (by kernel_rfl) (by kernel_rfl) (by kernel_rfl) (fun _ _ _ h => hp _ _ _ _ h) (.inl ⟨by kernel_rfl, fun V hV => ?_⟩) hS ?_
  · have s0 := hV
    try obtain ⟨s1, s2⟩ := s0
    go_split_ands
    go_simp
    all_goals (first | assumption | skip)
  simp only [Act.put, List.setIfInBounds_toArray, List.set_cons_zero, List.set_cons_succ]
  refine wpAnyH_ready (rs := [4]) (by kernel_rfl) (by simp) ?_
  refine (AllReadyH.cons (o := ⟨some 85, .load 34 (.tmp 84), 34, "law.go:361", #[⟨3, .data⟩], none⟩) rfl (fun K hK => ?_) AllReadyH.nil)
  go_simp
  refine hK.out _ _ hS (fun _ => ?_)
  clear hK K
  try simp only [Act.put, List.setIfInBounds_toArray, List.set_cons_zero, List.set_cons_succ]
  refine wpAnyH_all (rs := [7]) (by kernel_rfl) (by simp) ?_
  intro i hiX
  obtain rfl : i = 7 := by simpa using hiX
  refine appR_opD (j := 7) (o := ⟨some 88, .call { callee := Callee.builtin Builtin.append, args := #[.tmp 85, .tmp 87], argTypes := #[34, 34] }, 34, "law.go:361", #[⟨4, .data⟩, ⟨6, .data⟩], none⟩) rfl rfl (.tmp 85) (.tmp 87) rfl base (.slice av nv cv) n xs (by simp [Act.eval]) (w := W.drew) hown ab nb cb news (by simp [Act.eval]) hl hz h1 hnn (by omega) hbase ?_
  intro v' w' r1 r2 r3
  have hS2 := hcv w' r2
  refine ⟨hS2, ?_⟩
  have hQ' : w'.heap[kb]? = some (.cells cur 51 (0, 0)) := (r2.block kb (Array.getElem?_eq_some_iff.1 hB).1 (fun e => hne e.symm)).trans hB
  have hfz : w'.frozen? ⟨kb, 1, none⟩ = false := frozen_of_row _ _ 1 _ _ hQ'
  have hbv : w'.cell? ⟨kb, 1, none⟩ = some (.slice av nv cv) := (cell_of_row _ _ 1 _ _ _ hQ').trans hb0'
  have hfin := h v' w' r1 r2 (r3.imp id (fun e => ⟨_, e, by simp⟩)) hQ'
  obtain ⟨a1, n1, rfl⟩ := d_shape r1
  try simp only [Act.put, List.setIfInBounds_toArray, List.set_cons_zero, List.set_cons_succ]
  refine wpAnyH_take (i := 8) (oi := ⟨some 89, .nilCheck (.tmp 81), 0, "law.go:361", #[⟨0, .data⟩, ⟨0, .phase⟩, ⟨1, .phase⟩, ⟨2, .phase⟩, ⟨3, .phase⟩, ⟨4, .phase⟩, ⟨5, .phase⟩, ⟨6, .phase⟩, ⟨7, .phase⟩], none⟩) (v := .pointer (some ⟨kb, 0, none⟩)) rfl (by kernel_rfl) (by kernel_rfl) (by kernel_rfl) (fun _ _ _ h => hp _ _ _ _ h) (.inl ⟨by kernel_rfl, fun V hV => ?_⟩) hS2 ?_
  · have s0 := hV
    try obtain ⟨s1, s2⟩ := s0
    go_split_ands
    go_simp
    all_goals (first | assumption | skip)
  simp only [Act.put, List.setIfInBounds_toArray, List.set_cons_zero, List.set_cons_succ]
  refine wpAnyH_take (i := 9) (oi := ⟨some 90, .fieldAddr 51 (.tmp 89) 1, 0, "law.go:361", #[⟨8, .data⟩, ⟨0, .phase⟩, ⟨1, .phase⟩, ⟨2, .phase⟩, ⟨3, .phase⟩, ⟨4, .phase⟩, ⟨5, .phase⟩, ⟨6, .phase⟩, ⟨7, .phase⟩], none⟩) (v := .pointer (some ⟨kb, 1, none⟩)) rfl (by kernel_rfl) (by kernel_rfl) (by kernel_rfl) (fun _ _ _ h => hp _ _ _ _ h) (.inl ⟨by kernel_rfl, fun V hV => ?_⟩) hS2 ?_
  · have s0 := hV
    try obtain ⟨s1, s2⟩ := s0
    go_split_ands
    go_simp
    all_goals (first | assumption | skip)
  simp only [Act.put, List.setIfInBounds_toArray, List.set_cons_zero, List.set_cons_succ]
  refine wpAnyH_ready (rs := [10]) (by kernel_rfl) (by simp) ?_
  refine (AllReadyH.cons (o := ⟨none, .store 34 (.tmp 90) (.tmp 88), 0, "law.go:361", #[⟨9, .data⟩, ⟨7, .data⟩, ⟨7, .chain⟩, ⟨0, .phase⟩, ⟨1, .phase⟩, ⟨2, .phase⟩, ⟨3, .phase⟩, ⟨4, .phase⟩, ⟨5, .phase⟩, ⟨6, .phase⟩, ⟨7, .phase⟩], none⟩) rfl (fun K hK => ?_) AllReadyH.nil)
  go_simp
  refine hK.out _ _ (hcw w' r2 _) (fun _ => ?_)
  clear hK K
  try simp only [Act.put, List.setIfInBounds_toArray, List.set_cons_zero, List.set_cons_succ]
  exact wpAnyH_done (Q := calmD Q) (by kernel_rfl) hfin _

def regB26Ops : Array Oper := #[⟨some 93, .move (.tmp 0), 49, "law.go:363", #[], none⟩,
  ⟨some 94, .move (.tmp 0), 49, "law.go:363", #[], none⟩,
  ⟨some 95, .nilCheck (.tmp 94), 0, "law.go:363", #[⟨1, .data⟩], none⟩,
  ⟨some 96, .fieldAddr 51 (.tmp 95) 0, 0, "law.go:363", #[⟨2, .data⟩], none⟩,
  ⟨some 97, .load 34 (.tmp 96), 34, "law.go:363", #[⟨3, .data⟩], none⟩,
  ⟨some 98, .move (.tmp 0), 49, "law.go:363", #[], none⟩,
  ⟨some 99, .nilCheck (.tmp 98), 0, "law.go:363", #[⟨5, .data⟩], none⟩,
  ⟨some 100, .fieldAddr 51 (.tmp 99) 1, 0, "law.go:363", #[⟨6, .data⟩], none⟩,
  ⟨some 101, .load 34 (.tmp 100), 34, "law.go:363", #[⟨7, .data⟩], none⟩,
  ⟨some 102, .call { callee := Callee.builtin Builtin.append, args := #[.tmp 97, .tmp 101], argTypes := #[34, 34] }, 34, "law.go:363", #[⟨4, .data⟩, ⟨8, .data⟩], none⟩,
  ⟨some 103, .nilCheck (.tmp 93), 0, "law.go:363", #[⟨0, .data⟩, ⟨0, .phase⟩, ⟨1, .phase⟩, ⟨2, .phase⟩, ⟨3, .phase⟩, ⟨4, .phase⟩, ⟨5, .phase⟩, ⟨6, .phase⟩, ⟨7, .phase⟩, ⟨8, .phase⟩, ⟨9, .phase⟩], none⟩,
  ⟨some 104, .fieldAddr 51 (.tmp 103) 0, 0, "law.go:363", #[⟨10, .data⟩, ⟨0, .phase⟩, ⟨1, .phase⟩, ⟨2, .phase⟩, ⟨3, .phase⟩, ⟨4, .phase⟩, ⟨5, .phase⟩, ⟨6, .phase⟩, ⟨7, .phase⟩, ⟨8, .phase⟩, ⟨9, .phase⟩], none⟩,
  ⟨none, .store 34 (.tmp 104) (.tmp 102), 0, "law.go:363", #[⟨11, .data⟩, ⟨9, .data⟩, ⟨9, .chain⟩, ⟨0, .phase⟩, ⟨1, .phase⟩, ⟨2, .phase⟩, ⟨3, .phase⟩, ⟨4, .phase⟩, ⟨5, .phase⟩, ⟨6, .phase⟩, ⟨7, .phase⟩, ⟨8, .phase⟩, ⟨9, .phase⟩], none⟩]
set_option maxRecDepth 100000 in
set_option maxHeartbeats 4000000 in
theorem regB26 (Q : Exit → Act → World → Prop) (kb : Nat) (av : Option Addr) (nv cv n base : Nat) (ab : Option Addr) (nb cb : Nat) (news : List Value) (cur : Array Value) (xs : List Value) {t1 t2 t3 t4 t5 t6 t7 t8 t9 t10 t11 t12 t13 t14 t15 t16 t17 t18 t19 t20 t21 t22 t23 t24 t25 t26 t27 t28 t29 t30 t31 t32 t33 t34 t35 t36 t37 t38 t39 t40 t41 t42 t43 t44 t45 t46 t47 t48 t49 t50 t51 t52 t53 t54 t55 t56 t57 t58 t59 t60 t61 t62 t63 t64 t65 t66 t67 t68 t69 t70 t71 t72 t73 t74 t75 t76 t77 t78 t79 t80 t81 t82 t83 t84 t85 t86 t87 t88 t89 t90 t91 t92 t93 t94 t95 t96 t97 t98 t99 t100 t101 t102 t103 t104 t105 t106 t107 : Value} (W : World)
    (hown : W.ownsRow base 81 11 (.slice av nv cv) n xs) (hl : news.length = nb * 11) (hz : ∀ ad, ab = some ad → ∀ j u, news[j]? = some u → W.drew.cell? (ad.add j) = some u) (h1 : ∀ u ∈ news, u.oneCell' = true) (hnn : ab = none → nb = 0 ∧ cb = 0) (hb : n + nb ≤ 1099511627776) (hbase : base ≤ W.heap.size) (hB : W.heap[kb]? = some (.cells cur 51 (0, 0))) (hb0' : cur[0]? = some (.slice av nv cv)) (hne : (Value.slice av nv cv).ownBlock ≠ some kb)
    (hcv : ∀ V, W.drew.grownBy V (Value.slice av nv cv).ownBlock → V.cell? ⟨kb, 1, none⟩ = some (.slice ab nb cb)) (hcw : ∀ V, W.drew.grownBy V (Value.slice av nv cv).ownBlock → ∀ y, (V.setCell ⟨kb, 0, none⟩ y).cell? ⟨kb, 1, none⟩ = some (.slice ab nb cb))
    (h : ∀ v' w', w'.ownsRow base 81 11 v' (n + nb) (xs ++ news) → W.drew.grownBy w' (Value.slice av nv cv).ownBlock → (v'.ownBlock = (Value.slice av nv cv).ownBlock ∨ ∃ g, v'.ownBlock = some g ∧ W.heap.size ≤ g) → w'.heap[kb]? = some (.cells cur 51 (0, 0)) → Q .normal { tmps := (.pointer (some ⟨kb, 0, none⟩) :: t1 :: t2 :: t3 :: t4 :: t5 :: t6 :: t7 :: t8 :: t9 :: t10 :: t11 :: t12 :: t13 :: t14 :: t15 :: t16 :: t17 :: t18 :: t19 :: t20 :: t21 :: t22 :: t23 :: t24 :: t25 :: t26 :: t27 :: t28 :: t29 :: t30 :: t31 :: t32 :: t33 :: t34 :: t35 :: t36 :: t37 :: t38 :: t39 :: t40 :: t41 :: t42 :: t43 :: t44 :: t45 :: t46 :: t47 :: t48 :: t49 :: t50 :: t51 :: t52 :: t53 :: t54 :: t55 :: t56 :: t57 :: t58 :: t59 :: t60 :: t61 :: t62 :: t63 :: t64 :: t65 :: t66 :: t67 :: t68 :: t69 :: t70 :: t71 :: t72 :: t73 :: t74 :: t75 :: t76 :: t77 :: t78 :: t79 :: t80 :: t81 :: t82 :: t83 :: t84 :: t85 :: t86 :: t87 :: t88 :: t89 :: t90 :: t91 :: t92 :: .pointer (some ⟨kb, 0, none⟩) :: .pointer (some ⟨kb, 0, none⟩) :: .pointer (some ⟨kb, 0, none⟩) :: .pointer (some ⟨kb, 0, none⟩) :: .slice av nv cv :: .pointer (some ⟨kb, 0, none⟩) :: .pointer (some ⟨kb, 0, none⟩) :: .pointer (some ⟨kb, 1, none⟩) :: .slice ab nb cb :: v' :: .pointer (some ⟨kb, 0, none⟩) :: .pointer (some ⟨kb, 0, none⟩) :: t105 :: t106 :: t107 :: []).toArray, defers := [] } (w'.setCell ⟨kb, 0, none⟩ v')) :
    (Code.region 26 regB26Ops true).wp Tryz.prog Q { tmps := (.pointer (some ⟨kb, 0, none⟩) :: t1 :: t2 :: t3 :: t4 :: t5 :: t6 :: t7 :: t8 :: t9 :: t10 :: t11 :: t12 :: t13 :: t14 :: t15 :: t16 :: t17 :: t18 :: t19 :: t20 :: t21 :: t22 :: t23 :: t24 :: t25 :: t26 :: t27 :: t28 :: t29 :: t30 :: t31 :: t32 :: t33 :: t34 :: t35 :: t36 :: t37 :: t38 :: t39 :: t40 :: t41 :: t42 :: t43 :: t44 :: t45 :: t46 :: t47 :: t48 :: t49 :: t50 :: t51 :: t52 :: t53 :: t54 :: t55 :: t56 :: t57 :: t58 :: t59 :: t60 :: t61 :: t62 :: t63 :: t64 :: t65 :: t66 :: t67 :: t68 :: t69 :: t70 :: t71 :: t72 :: t73 :: t74 :: t75 :: t76 :: t77 :: t78 :: t79 :: t80 :: t81 :: t82 :: t83 :: t84 :: t85 :: t86 :: t87 :: t88 :: t89 :: t90 :: t91 :: t92 :: t93 :: t94 :: t95 :: t96 :: t97 :: t98 :: t99 :: t100 :: t101 :: t102 :: t103 :: t104 :: t105 :: t106 :: t107 :: []).toArray, defers := [] } W := by
  refine Code.wp_mono (fun _ _ _ h => calmD_le h) ?_
  have hp : ∀ c a a' w, calmD Q (.panic c) a w → calmD Q (.panic c) a' w := fun _ _ _ _ h => h
  refine wp_region_held (S := fun V => V.cell? ⟨kb, 1, none⟩ = some (.slice ab nb cb)) (by kernel_rfl) ?_
  change wpAnyH _ _ _ _ _ _ _ _ W.drew
  have hS := hcv W.drew ⟨rfl, rfl, rfl, Nat.le_refl _, fun _ _ _ => rfl⟩
  have hb0 : W.drew.cell? ⟨kb, 0, none⟩ = some (.slice av nv cv) := (cell_of_row _ _ 0 _ _ _ (show W.drew.heap[kb]? = _ from hB)).trans hb0'
  refine wpAnyH_take (i := 0) (oi := ⟨some 93, .move (.tmp 0), 49, "law.go:363", #[], none⟩) (v := .pointer (some ⟨kb, 0, none⟩)) rfl (by kernel_rfl) (by kernel_rfl) (by kernel_rfl) (fun _ _ _ h => hp _ _ _ _ h) (.inl ⟨by kernel_rfl, fun V hV => ?_⟩) hS ?_
  · have s0 := hV
    try obtain ⟨s1, s2⟩ := s0
    go_split_ands
    go_simp
    all_goals (first | assumption | skip)
  simp only [Act.put, List.setIfInBounds_toArray, List.set_cons_zero, List.set_cons_succ]
  refine wpAnyH_take (i := 1) (oi := ⟨some 94, .move (.tmp 0), 49, "law.go:363", #[], none⟩) (v := .pointer (some ⟨kb, 0, none⟩)) rfl (by kernel_rfl) (by kernel_rfl) (by kernel_rfl) (fun _ _ _ h => hp _ _ _ _ h) (.inl ⟨by kernel_rfl, fun V hV => ?_⟩) hS ?_
  · have s0 := hV
    try obtain ⟨s1, s2⟩ := s0
    go_split_ands
    go_simp
    all_goals (first | assumption | skip)
  simp only [Act.put, List.setIfInBounds_toArray, List.set_cons_zero, List.set_cons_succ]
  refine wpAnyH_take (i := 2) (oi := ⟨some 95, .nilCheck (.tmp 94), 0, "law.go:363", #[⟨1, .data⟩], none⟩) (v := .pointer (some ⟨kb, 0, none⟩)) rfl (by kernel_rfl) (by kernel_rfl) (by kernel_rfl) (fun _ _ _ h => hp _ _ _ _ h) (.inl ⟨by kernel_rfl, fun V hV => ?_⟩) hS ?_
  · have s0 := hV
    try obtain ⟨s1, s2⟩ := s0
    go_split_ands
    go_simp
    all_goals (first | assumption | skip)
  simp only [Act.put, List.setIfInBounds_toArray, List.set_cons_zero, List.set_cons_succ]
  refine wpAnyH_take (i := 3) (oi := ⟨some 96, .fieldAddr 51 (.tmp 95) 0, 0, "law.go:363", #[⟨2, .data⟩], none⟩) (v := .pointer (some ⟨kb, 0, none⟩)) rfl (by kernel_rfl) (by kernel_rfl) (by kernel_rfl) (fun _ _ _ h => hp _ _ _ _ h) (.inl ⟨by kernel_rfl, fun V hV => ?_⟩) hS ?_
  · have s0 := hV
    try obtain ⟨s1, s2⟩ := s0
    go_split_ands
    go_simp
    all_goals (first | assumption | skip)
  simp only [Act.put, List.setIfInBounds_toArray, List.set_cons_zero, List.set_cons_succ]
  refine wpAnyH_take (i := 5) (oi := ⟨some 98, .move (.tmp 0), 49, "law.go:363", #[], none⟩) (v := .pointer (some ⟨kb, 0, none⟩)) rfl (by kernel_rfl) (by kernel_rfl) (by kernel_rfl) (fun _ _ _ h => hp _ _ _ _ h) (.inl ⟨by kernel_rfl, fun V hV => ?_⟩) hS ?_
  · have s0 := hV
    try obtain ⟨s1, s2⟩ := s0
    go_split_ands
    go_simp
    all_goals (first | assumption | skip)
  simp only [Act.put, List.setIfInBounds_toArray, List.set_cons_zero, List.set_cons_succ]
  refine wpAnyH_take (i := 6) (oi := ⟨some 99, .nilCheck (.tmp 98), 0, "law.go:363", #[⟨5, .data⟩], none⟩) (v := .pointer (some ⟨kb, 0, none⟩)) rfl (by kernel_rfl) (by kernel_rfl) (by kernel_rfl) (fun _ _ _ h => hp _ _ _ _ h) (.inl ⟨by kernel_rfl, fun V hV => ?_⟩) hS ?_
  · have s0 := hV
    try obtain ⟨s1, s2⟩ := s0
    go_split_ands
    go_simp
    all_goals (first | assumption | skip)
  simp only [Act.put, List.setIfInBounds_toArray, List.set_cons_zero, List.set_cons_succ]
  refine wpAnyH_take (i := 7) (oi := ⟨some 100, .fieldAddr 51 (.tmp 99) 1, 0, "law.go:363", #[⟨6, .data⟩], none⟩) (v := .pointer (some ⟨kb, 1, none⟩)) rfl (by kernel_rfl) (by kernel_rfl) (by kernel_rfl) (fun _ _ _ h => hp _ _ _ _ h) (.inl ⟨by kernel_rfl, fun V hV => ?_⟩) hS ?_
  · have s0 := hV
    try obtain ⟨s1, s2⟩ := s0
    go_split_ands
    go_simp
    all_goals (first | assumption | skip)
  simp only [Act.put, List.setIfInBounds_toArray, List.set_cons_zero, List.set_cons_succ]
  refine wpAnyH_take (i := 8) (oi := ⟨some 101, .load 34 (.tmp 100), 34, "law.go:363", #[⟨7, .data⟩], none⟩) (v := .slice ab nb cb) rfl (by kernel_rfl) (by kernel_rfl) (by kernel_rfl) (fun _ _ _ h => hp _ _ _ _ h) (.inl ⟨by kernel_rfl, fun V hV => ?_⟩) hS ?_
  · have s0 := hV
    try obtain ⟨s1, s2⟩ := s0
    go_split_ands
    go_simp
    all_goals (first | assumption | skip)
  simp only [Act.put, List.setIfInBounds_toArray, List.set_cons_zero, List.set_cons_succ]
  refine wpAnyH_ready (rs := [4]) (by kernel_rfl) (by simp) ?_
  refine (AllReadyH.cons (o := ⟨some 97, .load 34 (.tmp 96), 34, "law.go:363", #[⟨3, .data⟩], none⟩) rfl (fun K hK => ?_) AllReadyH.nil)
  go_simp
  refine hK.out _ _ hS (fun _ => ?_)
  clear hK K
  try simp only [Act.put, List.setIfInBounds_toArray, List.set_cons_zero, List.set_cons_succ]
  refine wpAnyH_all (rs := [9]) (by kernel_rfl) (by simp) ?_
  intro i hiX
  obtain rfl : i = 9 := by simpa using hiX
  refine appR_opD (j := 9) (o := ⟨some 102, .call { callee := Callee.builtin Builtin.append, args := #[.tmp 97, .tmp 101], argTypes := #[34, 34] }, 34, "law.go:363", #[⟨4, .data⟩, ⟨8, .data⟩], none⟩) rfl rfl (.tmp 97) (.tmp 101) rfl base (.slice av nv cv) n xs (by simp [Act.eval]) (w := W.drew) hown ab nb cb news (by simp [Act.eval]) hl hz h1 hnn (by omega) hbase ?_
  intro v' w' r1 r2 r3
  have hS2 := hcv w' r2
  refine ⟨hS2, ?_⟩
  have hQ' : w'.heap[kb]? = some (.cells cur 51 (0, 0)) := (r2.block kb (Array.getElem?_eq_some_iff.1 hB).1 (fun e => hne e.symm)).trans hB
  have hfz : w'.frozen? ⟨kb, 0, none⟩ = false := frozen_of_row _ _ 0 _ _ hQ'
  have hbv : w'.cell? ⟨kb, 0, none⟩ = some (.slice av nv cv) := (cell_of_row _ _ 0 _ _ _ hQ').trans hb0'
  have hfin := h v' w' r1 r2 (r3.imp id (fun e => ⟨_, e, by simp⟩)) hQ'
  obtain ⟨a1, n1, rfl⟩ := d_shape r1
  try simp only [Act.put, List.setIfInBounds_toArray, List.set_cons_zero, List.set_cons_succ]
  refine wpAnyH_take (i := 10) (oi := ⟨some 103, .nilCheck (.tmp 93), 0, "law.go:363", #[⟨0, .data⟩, ⟨0, .phase⟩, ⟨1, .phase⟩, ⟨2, .phase⟩, ⟨3, .phase⟩, ⟨4, .phase⟩, ⟨5, .phase⟩, ⟨6, .phase⟩, ⟨7, .phase⟩, ⟨8, .phase⟩, ⟨9, .phase⟩], none⟩) (v := .pointer (some ⟨kb, 0, none⟩)) rfl (by kernel_rfl) (by kernel_rfl) (by kernel_rfl) (fun _ _ _ h => hp _ _ _ _ h) (.inl ⟨by kernel_rfl, fun V hV => ?_⟩) hS2 ?_
  · have s0 := hV
    try obtain ⟨s1, s2⟩ := s0
    go_split_ands
    go_simp
    all_goals (first | assumption | skip)
  simp only [Act.put, List.setIfInBounds_toArray, List.set_cons_zero, List.set_cons_succ]
  refine wpAnyH_take (i := 11) (oi := ⟨some 104, .fieldAddr 51 (.tmp 103) 0, 0, "law.go:363", #[⟨10, .data⟩, ⟨0, .phase⟩, ⟨1, .phase⟩, ⟨2, .phase⟩, ⟨3, .phase⟩, ⟨4, .phase⟩, ⟨5, .phase⟩, ⟨6, .phase⟩, ⟨7, .phase⟩, ⟨8, .phase⟩, ⟨9, .phase⟩], none⟩) (v := .pointer (some ⟨kb, 0, none⟩)) rfl (by kernel_rfl) (by kernel_rfl) (by kernel_rfl) (fun _ _ _ h => hp _ _ _ _ h) (.inl ⟨by kernel_rfl, fun V hV => ?_⟩) hS2 ?_
  · have s0 := hV
    try obtain ⟨s1, s2⟩ := s0
    go_split_ands
    go_simp
    all_goals (first | assumption | skip)
  simp only [Act.put, List.setIfInBounds_toArray, List.set_cons_zero, List.set_cons_succ]
  refine wpAnyH_ready (rs := [12]) (by kernel_rfl) (by simp) ?_
  refine (AllReadyH.cons (o := ⟨none, .store 34 (.tmp 104) (.tmp 102), 0, "law.go:363", #[⟨11, .data⟩, ⟨9, .data⟩, ⟨9, .chain⟩, ⟨0, .phase⟩, ⟨1, .phase⟩, ⟨2, .phase⟩, ⟨3, .phase⟩, ⟨4, .phase⟩, ⟨5, .phase⟩, ⟨6, .phase⟩, ⟨7, .phase⟩, ⟨8, .phase⟩, ⟨9, .phase⟩], none⟩) rfl (fun K hK => ?_) AllReadyH.nil)
  go_simp
  refine hK.out _ _ (hcw w' r2 _) (fun _ => ?_)
  clear hK K
  try simp only [Act.put, List.setIfInBounds_toArray, List.set_cons_zero, List.set_cons_succ]
  exact wpAnyH_done (Q := calmD Q) (by kernel_rfl) hfin _

end Go.Proofs.YtllhbhogfffedaaGreatDoor.K
