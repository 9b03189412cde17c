import Derived.Test.YticdedcgmofpjaaDoorDkPx
namespace Go.Proofs.YticdedcgmofpjaaDoor.K
open Go.RowKit
set_option linter.unusedVariables false
set_option linter.unusedSimpArgs false
section
attribute [local go_sem] Oper.semAt_some

def regPc3Ops : Array Oper := #[{ dst := some 15, op := Op.move (Operand.tmp 0), type := 30, pos := "top01.go:158", after := #[], guard := none },
  { dst := some 16, op := Op.nilCheck (Operand.tmp 15), type := 0, pos := "top01.go:158", after := #[{ on := 0, ground := Ground.data }], guard := none },
  { dst := some 17, op := Op.fieldAddr 35 (Operand.tmp 16) 2, type := 0, pos := "top01.go:158", after := #[{ on := 1, ground := Ground.data }], guard := none },
  { dst := some 18, op := Op.load 33 (Operand.tmp 17), type := 33, pos := "top01.go:158", after := #[{ on := 2, ground := Ground.data }], guard := none },
  { dst := some 19, op := Op.move (Operand.tmp 4), type := 3, pos := "top01.go:158", after := #[], guard := none },
  { dst := some 20, op := Op.move (Operand.tmp 0), type := 30, pos := "top01.go:158", after := #[], guard := none },
  { dst := some 21, op := Op.nilCheck (Operand.tmp 20), type := 0, pos := "top01.go:158", after := #[{ on := 5, ground := Ground.data }], guard := none },
  { dst := some 22, op := Op.fieldAddr 35 (Operand.tmp 21) 2, type := 0, pos := "top01.go:158", after := #[{ on := 6, ground := Ground.data }], guard := none },
  { dst := some 23, op := Op.load 33 (Operand.tmp 22), type := 33, pos := "top01.go:158", after := #[{ on := 7, ground := Ground.data }], guard := none },
  { dst := some 24, op := Op.move (Operand.tmp 4), type := 3, pos := "top01.go:158", after := #[], guard := none },
  { dst := some 25, op := Op.indexAddr 33 (Operand.tmp 23) (Operand.tmp 24), type := 0, pos := "top01.go:158", after := #[{ on := 8, ground := Ground.data }, { on := 9, ground := Ground.data }], guard := none },
  { dst := some 26, op := Op.load 3 (Operand.tmp 25), type := 3, pos := "top01.go:158", after := #[{ on := 10, ground := Ground.data }], guard := none },
  { dst := some 27, op := Op.move (Operand.tmp 1), type := 3, pos := "top01.go:158", after := #[], guard := none },
  { dst := some 28, op := Op.call { callee := Callee.builtin Builtin.max, args := #[Operand.tmp 27, Operand.const (Value.int IntKind.i64 0)], argTypes := #[3, 3] }, type := 3, pos := "top01.go:158", after := #[{ on := 12, ground := Ground.data }], guard := none },
  { dst := some 29, op := Op.move (Operand.tmp 0), type := 30, pos := "top01.go:158", after := #[], guard := none },
  { dst := some 30, op := Op.nilCheck (Operand.tmp 29), type := 0, pos := "top01.go:158", after := #[{ on := 14, ground := Ground.data }], guard := none },
  { dst := some 31, op := Op.fieldAddr 35 (Operand.tmp 30) 1, type := 0, pos := "top01.go:158", after := #[{ on := 15, ground := Ground.data }], guard := none },
  { dst := some 32, op := Op.load 32 (Operand.tmp 31), type := 32, pos := "top01.go:158", after := #[{ on := 16, ground := Ground.data }], guard := none },
  { dst := some 33, op := Op.move (Operand.tmp 4), type := 3, pos := "top01.go:158", after := #[], guard := none },
  { dst := some 34, op := Op.indexAddr 32 (Operand.tmp 32) (Operand.tmp 33), type := 0, pos := "top01.go:158", after := #[{ on := 17, ground := Ground.data }, { on := 18, ground := Ground.data }], guard := none },
  { dst := some 35, op := Op.load 36 (Operand.tmp 34), type := 36, pos := "top01.go:158", after := #[{ on := 19, ground := Ground.data }], guard := none },
  { dst := some 36, op := Op.call { callee := Callee.builtin Builtin.len, args := #[Operand.tmp 35], argTypes := #[36] }, type := 3, pos := "top01.go:158", after := #[{ on := 20, ground := Ground.data }], guard := none },
  { dst := some 37, op := Op.move (Operand.tmp 0), type := 30, pos := "top01.go:158", after := #[], guard := none },
  { dst := some 38, op := Op.nilCheck (Operand.tmp 37), type := 0, pos := "top01.go:158", after := #[{ on := 22, ground := Ground.data }], guard := none },
  { dst := some 39, op := Op.fieldAddr 35 (Operand.tmp 38) 2, type := 0, pos := "top01.go:158", after := #[{ on := 23, ground := Ground.data }], guard := none },
  { dst := some 40, op := Op.load 33 (Operand.tmp 39), type := 33, pos := "top01.go:158", after := #[{ on := 24, ground := Ground.data }], guard := none },
  { dst := some 41, op := Op.move (Operand.tmp 4), type := 3, pos := "top01.go:158", after := #[], guard := none },
  { dst := some 42, op := Op.indexAddr 33 (Operand.tmp 40) (Operand.tmp 41), type := 0, pos := "top01.go:158", after := #[{ on := 25, ground := Ground.data }, { on := 26, ground := Ground.data }], guard := none },
  { dst := some 43, op := Op.load 3 (Operand.tmp 42), type := 3, pos := "top01.go:158", after := #[{ on := 27, ground := Ground.data }], guard := none },
  { dst := some 44, op := Op.binOp BinOp.sub 3 (Operand.tmp 36) (Operand.tmp 43) 3, type := 3, pos := "top01.go:158", after := #[{ on := 21, ground := Ground.data }, { on := 28, ground := Ground.data }], guard := none },
  { dst := some 45, op := Op.call { callee := Callee.builtin Builtin.min, args := #[Operand.tmp 28, Operand.tmp 44], argTypes := #[3, 3] }, type := 3, pos := "top01.go:158", after := #[{ on := 13, ground := Ground.data }, { on := 29, ground := Ground.data }], guard := none },
  { dst := some 46, op := Op.binOp BinOp.add 3 (Operand.tmp 26) (Operand.tmp 45) 3, type := 3, pos := "top01.go:158", after := #[{ on := 11, ground := Ground.data }, { on := 30, ground := Ground.data }], guard := none },
  { dst := some 47, op := Op.indexAddr 33 (Operand.tmp 18) (Operand.tmp 19), type := 0, pos := "top01.go:158", after := #[{ on := 3, ground := Ground.data }, { on := 4, ground := Ground.data }, { on := 0, ground := Ground.phase }, { on := 1, ground := Ground.phase }, { on := 2, ground := Ground.phase }, { on := 3, ground := Ground.phase }, { on := 4, ground := Ground.phase }, { on := 5, ground := Ground.phase }, { on := 6, ground := Ground.phase }, { on := 7, ground := Ground.phase }, { on := 8, ground := Ground.phase }, { on := 9, ground := Ground.phase }, { on := 10, ground := Ground.phase }, { on := 11, ground := Ground.phase }, { on := 12, ground := Ground.phase }, { on := 13, ground := Ground.phase }, { on := 14, ground := Ground.phase }, { on := 15, ground := Ground.phase }, { on := 16, ground := Ground.phase }, { on := 17, ground := Ground.phase }, { on := 18, ground := Ground.phase }, { on := 19, ground := Ground.phase }, { on := 20, ground := Ground.phase }, { on := 21, ground := Ground.phase }, { on := 22, ground := Ground.phase }, { on := 23, ground := Ground.phase }, { on := 24, ground := Ground.phase }, { on := 25, ground := Ground.phase }, { on := 26, ground := Ground.phase }, { on := 27, ground := Ground.phase }, { on := 28, ground := Ground.phase }, { on := 29, ground := Ground.phase }, { on := 30, ground := Ground.phase }, { on := 31, ground := Ground.phase }], guard := none },
  { dst := none, op := Op.store 3 (Operand.tmp 47) (Operand.tmp 46), type := 0, pos := "top01.go:158", after := #[{ on := 32, ground := Ground.data }, { on := 31, ground := Ground.data }, { on := 0, ground := Ground.phase }, { on := 1, ground := Ground.phase }, { on := 2, ground := Ground.phase }, { on := 3, ground := Ground.phase }, { on := 4, ground := Ground.phase }, { on := 5, ground := Ground.phase }, { on := 6, ground := Ground.phase }, { on := 7, ground := Ground.phase }, { on := 8, ground := Ground.phase }, { on := 9, ground := Ground.phase }, { on := 10, ground := Ground.phase }, { on := 11, ground := Ground.phase }, { on := 12, ground := Ground.phase }, { on := 13, ground := Ground.phase }, { on := 14, ground := Ground.phase }, { on := 15, ground := Ground.phase }, { on := 16, ground := Ground.phase }, { on := 17, ground := Ground.phase }, { on := 18, ground := Ground.phase }, { on := 19, ground := Ground.phase }, { on := 20, ground := Ground.phase }, { on := 21, ground := Ground.phase }, { on := 22, ground := Ground.phase }, { on := 23, ground := Ground.phase }, { on := 24, ground := Ground.phase }, { on := 25, ground := Ground.phase }, { on := 26, ground := Ground.phase }, { on := 27, ground := Ground.phase }, { on := 28, ground := Ground.phase }, { on := 29, ground := Ground.phase }, { on := 30, ground := Ground.phase }, { on := 31, ground := Ground.phase }], guard := none }]
set_option maxRecDepth 100000 in
set_option maxHeartbeats 4000000 in
theorem regPc3 (Q : Exit → Act → World → Prop) (x gB gS nf cB cS i : Nat) (keep sf M q : Int) (av : Option Addr) (nv cv : Nat) {t2 t3 t5 t6 t7 t8 t9 t10 t11 t12 t13 t14 t15 t16 t17 t18 t19 t20 t21 t22 t23 t24 t25 t26 t27 t28 t29 t30 t31 t32 t33 t34 t35 t36 t37 t38 t39 t40 t41 t42 t43 t44 t45 t46 t47 t48 t49 t50 t51 t52 t53 t54 t55 t56 t57 t58 t59 t60 t61 t62 t63 t64 t65 t66 t67 t68 t69 t70 t71 t72 t73 t74 t75 t76 t77 : Value} (W : World)
    (hin : (i : Int) < (nf : Int)) (hM : (if keep < 0 then 0 else keep) = M) (hq : (if (nv : Int) - sf < M then (nv : Int) - sf else M) = q) (hw1 : IntKind.i64.wrap ((nv : Int) - sf) = (nv : Int) - sf) (hw2 : IntKind.i64.wrap (sf + q) = sf + q) (hb : W.drew.cell? ⟨gS, i, none⟩ = some (.int .i64 sf)) (hz : W.drew.frozen? ⟨gS, i, none⟩ = false) (hS : W.drew.cell? ⟨x, 2, none⟩ = some (.slice (some ⟨gS, 0, none⟩) nf cS) ∧ W.drew.cell? ⟨x, 1, none⟩ = some (.slice (some ⟨gB, 0, none⟩) nf cB) ∧ W.drew.cell? ⟨gB, i, none⟩ = some (.slice av nv cv)) (hcx : ∀ y, (W.drew.setCell ⟨gS, i, none⟩ y).cell? ⟨x, 2, none⟩ = some (.slice (some ⟨gS, 0, none⟩) nf cS) ∧ (W.drew.setCell ⟨gS, i, none⟩ y).cell? ⟨x, 1, none⟩ = some (.slice (some ⟨gB, 0, none⟩) nf cB) ∧ (W.drew.setCell ⟨gS, i, none⟩ y).cell? ⟨gB, i, none⟩ = some (.slice av nv cv))
    (h : Q .normal { tmps := (.pointer (some ⟨x, 0, none⟩) :: .int .i64 keep :: t2 :: t3 :: .int .i64 (i : Int) :: t5 :: t6 :: t7 :: t8 :: t9 :: t10 :: t11 :: t12 :: t13 :: t14 :: .pointer (some ⟨x, 0, none⟩) :: .pointer (some ⟨x, 0, none⟩) :: .pointer (some ⟨x, 2, none⟩) :: .slice (some ⟨gS, 0, none⟩) nf cS :: .int .i64 (i : Int) :: .pointer (some ⟨x, 0, none⟩) :: .pointer (some ⟨x, 0, none⟩) :: .pointer (some ⟨x, 2, none⟩) :: .slice (some ⟨gS, 0, none⟩) nf cS :: .int .i64 (i : Int) :: .pointer (some ⟨gS, i, none⟩) :: .int .i64 sf :: .int .i64 keep :: .int .i64 M :: .pointer (some ⟨x, 0, none⟩) :: .pointer (some ⟨x, 0, none⟩) :: .pointer (some ⟨x, 1, none⟩) :: .slice (some ⟨gB, 0, none⟩) nf cB :: .int .i64 (i : Int) :: .pointer (some ⟨gB, i, none⟩) :: .slice av nv cv :: .int .i64 ((nv : Nat) : Int) :: .pointer (some ⟨x, 0, none⟩) :: .pointer (some ⟨x, 0, none⟩) :: .pointer (some ⟨x, 2, none⟩) :: .slice (some ⟨gS, 0, none⟩) nf cS :: .int .i64 (i : Int) :: .pointer (some ⟨gS, i, none⟩) :: .int .i64 sf :: .int .i64 ((nv : Int) - sf) :: .int .i64 q :: .int .i64 (sf + q) :: .pointer (some ⟨gS, i, none⟩) :: t48 :: t49 :: t50 :: t51 :: t52 :: t53 :: t54 :: t55 :: t56 :: t57 :: t58 :: t59 :: t60 :: t61 :: t62 :: t63 :: t64 :: t65 :: t66 :: t67 :: t68 :: t69 :: t70 :: t71 :: t72 :: t73 :: t74 :: t75 :: t76 :: t77 :: []).toArray, defers := [] } (W.drew.setCell ⟨gS, i, none⟩ (.int .i64 (sf + q)))) :
    (Code.region 3 regPc3Ops true).wp Tryd.prog Q { tmps := (.pointer (some ⟨x, 0, none⟩) :: .int .i64 keep :: t2 :: t3 :: .int .i64 (i : Int) :: t5 :: t6 :: t7 :: t8 :: t9 :: t10 :: t11 :: t12 :: t13 :: t14 :: t15 :: t16 :: t17 :: t18 :: t19 :: t20 :: t21 :: t22 :: t23 :: t24 :: t25 :: t26 :: t27 :: t28 :: t29 :: t30 :: t31 :: t32 :: t33 :: t34 :: t35 :: t36 :: t37 :: t38 :: t39 :: t40 :: t41 :: t42 :: t43 :: t44 :: t45 :: t46 :: t47 :: t48 :: t49 :: t50 :: t51 :: t52 :: t53 :: t54 :: t55 :: t56 :: t57 :: t58 :: t59 :: t60 :: t61 :: t62 :: t63 :: t64 :: t65 :: t66 :: t67 :: t68 :: t69 :: t70 :: t71 :: t72 :: t73 :: t74 :: t75 :: t76 :: t77 :: []).toArray, defers := [] } W := by
  refine Code.wp_mono (fun _ _ _ h => calmD_le h) ?_
  have hp : ∀ c a a' w, calmD Q (.panic c) a w → calmD Q (.panic c) a' w := fun _ _ _ _ h => h
  refine wp_region_held (S := fun V => V.cell? ⟨x, 2, none⟩ = some (.slice (some ⟨gS, 0, none⟩) nf cS) ∧ V.cell? ⟨x, 1, none⟩ = some (.slice (some ⟨gB, 0, none⟩) nf cB) ∧ V.cell? ⟨gB, i, none⟩ = some (.slice av nv cv)) (by kernel_rfl) ?_
  change wpAnyH _ _ _ _ _ _ _ _ W.drew
  have hi0 : (0 : Int) ≤ (i : Int) := by omega
  refine wpAnyH_take (i := 0) (oi := { dst := some 15, op := Op.move (Operand.tmp 0), type := 30, pos := "top01.go:158", after := #[], guard := none }) (v := .pointer (some ⟨x, 0, none⟩)) rfl (by kernel_rfl) (by kernel_rfl) (by kernel_rfl) (fun _ _ _ h => hp _ _ _ _ h) (.inl ⟨by kernel_rfl, fun V hV => ?_⟩) hS ?_
  · have s0 := hV
    try obtain ⟨s1, s2⟩ := s0
    go_split_ands
    go_simp
    all_goals (first | assumption | skip)
  simp only [Act.put, List.setIfInBounds_toArray, List.set_cons_zero, List.set_cons_succ]
  refine wpAnyH_take (i := 1) (oi := { dst := some 16, op := Op.nilCheck (Operand.tmp 15), type := 0, pos := "top01.go:158", after := #[{ on := 0, ground := Ground.data }], guard := none }) (v := .pointer (some ⟨x, 0, none⟩)) rfl (by kernel_rfl) (by kernel_rfl) (by kernel_rfl) (fun _ _ _ h => hp _ _ _ _ h) (.inl ⟨by kernel_rfl, fun V hV => ?_⟩) hS ?_
  · have s0 := hV
    try obtain ⟨s1, s2⟩ := s0
    go_split_ands
    go_simp
    all_goals (first | assumption | skip)
  simp only [Act.put, List.setIfInBounds_toArray, List.set_cons_zero, List.set_cons_succ]
  refine wpAnyH_take (i := 2) (oi := { dst := some 17, op := Op.fieldAddr 35 (Operand.tmp 16) 2, type := 0, pos := "top01.go:158", after := #[{ on := 1, ground := Ground.data }], guard := none }) (v := .pointer (some ⟨x, 2, none⟩)) rfl (by kernel_rfl) (by kernel_rfl) (by kernel_rfl) (fun _ _ _ h => hp _ _ _ _ h) (.inl ⟨by kernel_rfl, fun V hV => ?_⟩) hS ?_
  · have s0 := hV
    try obtain ⟨s1, s2⟩ := s0
    go_split_ands
    go_simp
    all_goals (first | assumption | skip)
  simp only [Act.put, List.setIfInBounds_toArray, List.set_cons_zero, List.set_cons_succ]
  refine wpAnyH_take (i := 3) (oi := { dst := some 18, op := Op.load 33 (Operand.tmp 17), type := 33, pos := "top01.go:158", after := #[{ on := 2, ground := Ground.data }], guard := none }) (v := .slice (some ⟨gS, 0, none⟩) nf cS) rfl (by kernel_rfl) (by kernel_rfl) (by kernel_rfl) (fun _ _ _ h => hp _ _ _ _ h) (.inl ⟨by kernel_rfl, fun V hV => ?_⟩) hS ?_
  · have s0 := hV
    try obtain ⟨s1, s2⟩ := s0
    go_split_ands
    go_simp
    all_goals (first | assumption | skip)
  simp only [Act.put, List.setIfInBounds_toArray, List.set_cons_zero, List.set_cons_succ]
  refine wpAnyH_take (i := 4) (oi := { dst := some 19, op := Op.move (Operand.tmp 4), type := 3, pos := "top01.go:158", after := #[], guard := none }) (v := .int .i64 (i : Int)) rfl (by kernel_rfl) (by kernel_rfl) (by kernel_rfl) (fun _ _ _ h => hp _ _ _ _ h) (.inl ⟨by kernel_rfl, fun V hV => ?_⟩) hS ?_
  · have s0 := hV
    try obtain ⟨s1, s2⟩ := s0
    go_split_ands
    go_simp
    all_goals (first | assumption | skip)
  simp only [Act.put, List.setIfInBounds_toArray, List.set_cons_zero, List.set_cons_succ]
  refine wpAnyH_take (i := 5) (oi := { dst := some 20, op := Op.move (Operand.tmp 0), type := 30, pos := "top01.go:158", after := #[], guard := none }) (v := .pointer (some ⟨x, 0, none⟩)) rfl (by kernel_rfl) (by kernel_rfl) (by kernel_rfl) (fun _ _ _ h => hp _ _ _ _ h) (.inl ⟨by kernel_rfl, fun V hV => ?_⟩) hS ?_
  · have s0 := hV
    try obtain ⟨s1, s2⟩ := s0
    go_split_ands
    go_simp
    all_goals (first | assumption | skip)
  simp only [Act.put, List.setIfInBounds_toArray, List.set_cons_zero, List.set_cons_succ]
  refine wpAnyH_take (i := 6) (oi := { dst := some 21, op := Op.nilCheck (Operand.tmp 20), type := 0, pos := "top01.go:158", after := #[{ on := 5, ground := Ground.data }], guard := none }) (v := .pointer (some ⟨x, 0, none⟩)) rfl (by kernel_rfl) (by kernel_rfl) (by kernel_rfl) (fun _ _ _ h => hp _ _ _ _ h) (.inl ⟨by kernel_rfl, fun V hV => ?_⟩) hS ?_
  · have s0 := hV
    try obtain ⟨s1, s2⟩ := s0
    go_split_ands
    go_simp
    all_goals (first | assumption | skip)
  simp only [Act.put, List.setIfInBounds_toArray, List.set_cons_zero, List.set_cons_succ]
  refine wpAnyH_take (i := 7) (oi := { dst := some 22, op := Op.fieldAddr 35 (Operand.tmp 21) 2, type := 0, pos := "top01.go:158", after := #[{ on := 6, ground := Ground.data }], guard := none }) (v := .pointer (some ⟨x, 2, none⟩)) rfl (by kernel_rfl) (by kernel_rfl) (by kernel_rfl) (fun _ _ _ h => hp _ _ _ _ h) (.inl ⟨by kernel_rfl, fun V hV => ?_⟩) hS ?_
  · have s0 := hV
    try obtain ⟨s1, s2⟩ := s0
    go_split_ands
    go_simp
    all_goals (first | assumption | skip)
  simp only [Act.put, List.setIfInBounds_toArray, List.set_cons_zero, List.set_cons_succ]
  refine wpAnyH_take (i := 8) (oi := { dst := some 23, op := Op.load 33 (Operand.tmp 22), type := 33, pos := "top01.go:158", after := #[{ on := 7, ground := Ground.data }], guard := none }) (v := .slice (some ⟨gS, 0, none⟩) nf cS) rfl (by kernel_rfl) (by kernel_rfl) (by kernel_rfl) (fun _ _ _ h => hp _ _ _ _ h) (.inl ⟨by kernel_rfl, fun V hV => ?_⟩) hS ?_
  · have s0 := hV
    try obtain ⟨s1, s2⟩ := s0
    go_split_ands
    go_simp
    all_goals (first | assumption | skip)
  simp only [Act.put, List.setIfInBounds_toArray, List.set_cons_zero, List.set_cons_succ]
  refine wpAnyH_take (i := 9) (oi := { dst := some 24, op := Op.move (Operand.tmp 4), type := 3, pos := "top01.go:158", after := #[], guard := none }) (v := .int .i64 (i : Int)) rfl (by kernel_rfl) (by kernel_rfl) (by kernel_rfl) (fun _ _ _ h => hp _ _ _ _ h) (.inl ⟨by kernel_rfl, fun V hV => ?_⟩) hS ?_
  · have s0 := hV
    try obtain ⟨s1, s2⟩ := s0
    go_split_ands
    go_simp
    all_goals (first | assumption | skip)
  simp only [Act.put, List.setIfInBounds_toArray, List.set_cons_zero, List.set_cons_succ]
  refine wpAnyH_take (i := 10) (oi := { dst := some 25, op := Op.indexAddr 33 (Operand.tmp 23) (Operand.tmp 24), type := 0, pos := "top01.go:158", after := #[{ on := 8, ground := Ground.data }, { on := 9, ground := Ground.data }], guard := none }) (v := .pointer (some ⟨gS, i, none⟩)) rfl (by kernel_rfl) (by kernel_rfl) (by kernel_rfl) (fun _ _ _ h => hp _ _ _ _ h) (.inl ⟨by kernel_rfl, fun V hV => ?_⟩) hS ?_
  · have s0 := hV
    try obtain ⟨s1, s2⟩ := s0
    go_split_ands
    go_simp
    all_goals (first | assumption | skip)
  simp only [Act.put, List.setIfInBounds_toArray, List.set_cons_zero, List.set_cons_succ]
  refine wpAnyH_take (i := 12) (oi := { dst := some 27, op := Op.move (Operand.tmp 1), type := 3, pos := "top01.go:158", after := #[], guard := none }) (v := .int .i64 keep) rfl (by kernel_rfl) (by kernel_rfl) (by kernel_rfl) (fun _ _ _ h => hp _ _ _ _ h) (.inl ⟨by kernel_rfl, fun V hV => ?_⟩) hS ?_
  · have s0 := hV
    try obtain ⟨s1, s2⟩ := s0
    go_split_ands
    go_simp
    all_goals (first | assumption | skip)
  simp only [Act.put, List.setIfInBounds_toArray, List.set_cons_zero, List.set_cons_succ]
  refine wpAnyH_take (i := 13) (oi := { dst := some 28, op := Op.call { callee := Callee.builtin Builtin.max, args := #[Operand.tmp 27, Operand.const (Value.int IntKind.i64 0)], argTypes := #[3, 3] }, type := 3, pos := "top01.go:158", after := #[{ on := 12, ground := Ground.data }], guard := none }) (v := .int .i64 M) rfl (by kernel_rfl) (by kernel_rfl) (by kernel_rfl) (fun _ _ _ h => hp _ _ _ _ h) (.inl ⟨by kernel_rfl, fun V hV => ?_⟩) hS ?_
  · have s0 := hV
    try obtain ⟨s1, s2⟩ := s0
    go_split_ands
    go_simp
    all_goals (first | assumption | skip)
  simp only [Act.put, List.setIfInBounds_toArray, List.set_cons_zero, List.set_cons_succ]
  refine wpAnyH_take (i := 14) (oi := { dst := some 29, op := Op.move (Operand.tmp 0), type := 30, pos := "top01.go:158", after := #[], guard := none }) (v := .pointer (some ⟨x, 0, none⟩)) rfl (by kernel_rfl) (by kernel_rfl) (by kernel_rfl) (fun _ _ _ h => hp _ _ _ _ h) (.inl ⟨by kernel_rfl, fun V hV => ?_⟩) hS ?_
  · have s0 := hV
    try obtain ⟨s1, s2⟩ := s0
    go_split_ands
    go_simp
    all_goals (first | assumption | skip)
  simp only [Act.put, List.setIfInBounds_toArray, List.set_cons_zero, List.set_cons_succ]
  refine wpAnyH_take (i := 15) (oi := { dst := some 30, op := Op.nilCheck (Operand.tmp 29), type := 0, pos := "top01.go:158", after := #[{ on := 14, ground := Ground.data }], guard := none }) (v := .pointer (some ⟨x, 0, none⟩)) rfl (by kernel_rfl) (by kernel_rfl) (by kernel_rfl) (fun _ _ _ h => hp _ _ _ _ h) (.inl ⟨by kernel_rfl, fun V hV => ?_⟩) hS ?_
  · have s0 := hV
    try obtain ⟨s1, s2⟩ := s0
    go_split_ands
    go_simp
    all_goals (first | assumption | skip)
  simp only [Act.put, List.setIfInBounds_toArray, List.set_cons_zero, List.set_cons_succ]
  refine wpAnyH_take (i := 16) (oi := { dst := some 31, op := Op.fieldAddr 35 (Operand.tmp 30) 1, type := 0, pos := "top01.go:158", after := #[{ on := 15, ground := Ground.data }], guard := none }) (v := .pointer (some ⟨x, 1, none⟩)) rfl (by kernel_rfl) (by kernel_rfl) (by kernel_rfl) (fun _ _ _ h => hp _ _ _ _ h) (.inl ⟨by kernel_rfl, fun V hV => ?_⟩) hS ?_
  · have s0 := hV
    try obtain ⟨s1, s2⟩ := s0
    go_split_ands
    go_simp
    all_goals (first | assumption | skip)
  simp only [Act.put, List.setIfInBounds_toArray, List.set_cons_zero, List.set_cons_succ]
  refine wpAnyH_take (i := 17) (oi := { dst := some 32, op := Op.load 32 (Operand.tmp 31), type := 32, pos := "top01.go:158", after := #[{ on := 16, ground := Ground.data }], guard := none }) (v := .slice (some ⟨gB, 0, none⟩) nf cB) rfl (by kernel_rfl) (by kernel_rfl) (by kernel_rfl) (fun _ _ _ h => hp _ _ _ _ h) (.inl ⟨by kernel_rfl, fun V hV => ?_⟩) hS ?_
  · have s0 := hV
    try obtain ⟨s1, s2⟩ := s0
    go_split_ands
    go_simp
    all_goals (first | assumption | skip)
  simp only [Act.put, List.setIfInBounds_toArray, List.set_cons_zero, List.set_cons_succ]
  refine wpAnyH_take (i := 18) (oi := { dst := some 33, op := Op.move (Operand.tmp 4), type := 3, pos := "top01.go:158", after := #[], guard := none }) (v := .int .i64 (i : Int)) rfl (by kernel_rfl) (by kernel_rfl) (by kernel_rfl) (fun _ _ _ h => hp _ _ _ _ h) (.inl ⟨by kernel_rfl, fun V hV => ?_⟩) hS ?_
  · have s0 := hV
    try obtain ⟨s1, s2⟩ := s0
    go_split_ands
    go_simp
    all_goals (first | assumption | skip)
  simp only [Act.put, List.setIfInBounds_toArray, List.set_cons_zero, List.set_cons_succ]
  refine wpAnyH_take (i := 19) (oi := { dst := some 34, op := Op.indexAddr 32 (Operand.tmp 32) (Operand.tmp 33), type := 0, pos := "top01.go:158", after := #[{ on := 17, ground := Ground.data }, { on := 18, ground := Ground.data }], guard := none }) (v := .pointer (some ⟨gB, i, none⟩)) rfl (by kernel_rfl) (by kernel_rfl) (by kernel_rfl) (fun _ _ _ h => hp _ _ _ _ h) (.inl ⟨by kernel_rfl, fun V hV => ?_⟩) hS ?_
  · have s0 := hV
    try obtain ⟨s1, s2⟩ := s0
    go_split_ands
    go_simp
    all_goals (first | assumption | skip)
  simp only [Act.put, List.setIfInBounds_toArray, List.set_cons_zero, List.set_cons_succ]
  refine wpAnyH_take (i := 20) (oi := { dst := some 35, op := Op.load 36 (Operand.tmp 34), type := 36, pos := "top01.go:158", after := #[{ on := 19, ground := Ground.data }], guard := none }) (v := .slice av nv cv) rfl (by kernel_rfl) (by kernel_rfl) (by kernel_rfl) (fun _ _ _ h => hp _ _ _ _ h) (.inl ⟨by kernel_rfl, fun V hV => ?_⟩) hS ?_
  · have s0 := hV
    try obtain ⟨s1, s2⟩ := s0
    go_split_ands
    go_simp
    all_goals (first | assumption | skip)
  simp only [Act.put, List.setIfInBounds_toArray, List.set_cons_zero, List.set_cons_succ]
  refine wpAnyH_take (i := 21) (oi := { dst := some 36, op := Op.call { callee := Callee.builtin Builtin.len, args := #[Operand.tmp 35], argTypes := #[36] }, type := 3, pos := "top01.go:158", after := #[{ on := 20, ground := Ground.data }], guard := none }) (v := .int .i64 ((nv : Nat) : Int)) rfl (by kernel_rfl) (by kernel_rfl) (by kernel_rfl) (fun _ _ _ h => hp _ _ _ _ h) (.inl ⟨by kernel_rfl, fun V hV => ?_⟩) hS ?_
  · have s0 := hV
    try obtain ⟨s1, s2⟩ := s0
    go_split_ands
    go_simp
    all_goals (first | assumption | skip)
  simp only [Act.put, List.setIfInBounds_toArray, List.set_cons_zero, List.set_cons_succ]
  refine wpAnyH_take (i := 22) (oi := { dst := some 37, op := Op.move (Operand.tmp 0), type := 30, pos := "top01.go:158", after := #[], guard := none }) (v := .pointer (some ⟨x, 0, none⟩)) rfl (by kernel_rfl) (by kernel_rfl) (by kernel_rfl) (fun _ _ _ h => hp _ _ _ _ h) (.inl ⟨by kernel_rfl, fun V hV => ?_⟩) hS ?_
  · have s0 := hV
    try obtain ⟨s1, s2⟩ := s0
    go_split_ands
    go_simp
    all_goals (first | assumption | skip)
  simp only [Act.put, List.setIfInBounds_toArray, List.set_cons_zero, List.set_cons_succ]
  refine wpAnyH_take (i := 23) (oi := { dst := some 38, op := Op.nilCheck (Operand.tmp 37), type := 0, pos := "top01.go:158", after := #[{ on := 22, ground := Ground.data }], guard := none }) (v := .pointer (some ⟨x, 0, none⟩)) rfl (by kernel_rfl) (by kernel_rfl) (by kernel_rfl) (fun _ _ _ h => hp _ _ _ _ h) (.inl ⟨by kernel_rfl, fun V hV => ?_⟩) hS ?_
  · have s0 := hV
    try obtain ⟨s1, s2⟩ := s0
    go_split_ands
    go_simp
    all_goals (first | assumption | skip)
  simp only [Act.put, List.setIfInBounds_toArray, List.set_cons_zero, List.set_cons_succ]
  refine wpAnyH_take (i := 24) (oi := { dst := some 39, op := Op.fieldAddr 35 (Operand.tmp 38) 2, type := 0, pos := "top01.go:158", after := #[{ on := 23, ground := Ground.data }], guard := none }) (v := .pointer (some ⟨x, 2, none⟩)) rfl (by kernel_rfl) (by kernel_rfl) (by kernel_rfl) (fun _ _ _ h => hp _ _ _ _ h) (.inl ⟨by kernel_rfl, fun V hV => ?_⟩) hS ?_
  · have s0 := hV
    try obtain ⟨s1, s2⟩ := s0
    go_split_ands
    go_simp
    all_goals (first | assumption | skip)
  simp only [Act.put, List.setIfInBounds_toArray, List.set_cons_zero, List.set_cons_succ]
  refine wpAnyH_take (i := 25) (oi := { dst := some 40, op := Op.load 33 (Operand.tmp 39), type := 33, pos := "top01.go:158", after := #[{ on := 24, ground := Ground.data }], guard := none }) (v := .slice (some ⟨gS, 0, none⟩) nf cS) rfl (by kernel_rfl) (by kernel_rfl) (by kernel_rfl) (fun _ _ _ h => hp _ _ _ _ h) (.inl ⟨by kernel_rfl, fun V hV => ?_⟩) hS ?_
  · have s0 := hV
    try obtain ⟨s1, s2⟩ := s0
    go_split_ands
    go_simp
    all_goals (first | assumption | skip)
  simp only [Act.put, List.setIfInBounds_toArray, List.set_cons_zero, List.set_cons_succ]
  refine wpAnyH_take (i := 26) (oi := { dst := some 41, op := Op.move (Operand.tmp 4), type := 3, pos := "top01.go:158", after := #[], guard := none }) (v := .int .i64 (i : Int)) rfl (by kernel_rfl) (by kernel_rfl) (by kernel_rfl) (fun _ _ _ h => hp _ _ _ _ h) (.inl ⟨by kernel_rfl, fun V hV => ?_⟩) hS ?_
  · have s0 := hV
    try obtain ⟨s1, s2⟩ := s0
    go_split_ands
    go_simp
    all_goals (first | assumption | skip)
  simp only [Act.put, List.setIfInBounds_toArray, List.set_cons_zero, List.set_cons_succ]
  refine wpAnyH_take (i := 27) (oi := { dst := some 42, op := Op.indexAddr 33 (Operand.tmp 40) (Operand.tmp 41), type := 0, pos := "top01.go:158", after := #[{ on := 25, ground := Ground.data }, { on := 26, ground := Ground.data }], guard := none }) (v := .pointer (some ⟨gS, i, none⟩)) rfl (by kernel_rfl) (by kernel_rfl) (by kernel_rfl) (fun _ _ _ h => hp _ _ _ _ h) (.inl ⟨by kernel_rfl, fun V hV => ?_⟩) hS ?_
  · have s0 := hV
    try obtain ⟨s1, s2⟩ := s0
    go_split_ands
    go_simp
    all_goals (first | assumption | skip)
  simp only [Act.put, List.setIfInBounds_toArray, List.set_cons_zero, List.set_cons_succ]
  refine wpAnyH_ready (rs := [11, 28]) (by kernel_rfl) (by simp) ?_
  refine (AllReadyH.cons (o := { dst := some 26, op := Op.load 3 (Operand.tmp 25), type := 3, pos := "top01.go:158", after := #[{ on := 10, ground := Ground.data }], guard := none }) rfl (fun K hK => ?_) (AllReadyH.cons (o := { dst := some 43, op := Op.load 3 (Operand.tmp 42), type := 3, pos := "top01.go:158", after := #[{ on := 27, ground := Ground.data }], guard := none }) rfl (fun K hK => ?_) AllReadyH.nil))
  · go_simp
    refine hK.out _ _ hS (fun _ => ?_)
    clear hK K
    try simp only [Act.put, List.setIfInBounds_toArray, List.set_cons_zero, List.set_cons_succ]
    refine wpAnyH_ready (rs := [28]) (by kernel_rfl) (by simp) ?_
    refine (AllReadyH.cons (o := { dst := some 43, op := Op.load 3 (Operand.tmp 42), type := 3, pos := "top01.go:158", after := #[{ on := 27, ground := Ground.data }], guard := none }) rfl (fun K hK => ?_) AllReadyH.nil)
    go_simp
    refine hK.out _ _ hS (fun _ => ?_)
    clear hK K
    try simp only [Act.put, List.setIfInBounds_toArray, List.set_cons_zero, List.set_cons_succ]
    refine wpAnyH_take (i := 29) (oi := { dst := some 44, op := Op.binOp BinOp.sub 3 (Operand.tmp 36) (Operand.tmp 43) 3, type := 3, pos := "top01.go:158", after := #[{ on := 21, ground := Ground.data }, { on := 28, ground := Ground.data }], guard := none }) (v := .int .i64 ((nv : Int) - sf)) rfl (by kernel_rfl) (by kernel_rfl) (by kernel_rfl) (fun _ _ _ h => hp _ _ _ _ h) (.inl ⟨by kernel_rfl, fun V hV => ?_⟩) hS ?_
    · have s0 := hV
      try obtain ⟨s1, s2⟩ := s0
      go_split_ands
      go_simp
      all_goals (first | assumption | skip)
    simp only [Act.put, List.setIfInBounds_toArray, List.set_cons_zero, List.set_cons_succ]
    refine wpAnyH_take (i := 30) (oi := { dst := some 45, op := Op.call { callee := Callee.builtin Builtin.min, args := #[Operand.tmp 28, Operand.tmp 44], argTypes := #[3, 3] }, type := 3, pos := "top01.go:158", after := #[{ on := 13, ground := Ground.data }, { on := 29, ground := Ground.data }], guard := none }) (v := .int .i64 q) rfl (by kernel_rfl) (by kernel_rfl) (by kernel_rfl) (fun _ _ _ h => hp _ _ _ _ h) (.inl ⟨by kernel_rfl, fun V hV => ?_⟩) hS ?_
    · have s0 := hV
      try obtain ⟨s1, s2⟩ := s0
      go_split_ands
      go_simp
      all_goals (first | assumption | skip)
    simp only [Act.put, List.setIfInBounds_toArray, List.set_cons_zero, List.set_cons_succ]
    refine wpAnyH_take (i := 31) (oi := { dst := some 46, op := Op.binOp BinOp.add 3 (Operand.tmp 26) (Operand.tmp 45) 3, type := 3, pos := "top01.go:158", after := #[{ on := 11, ground := Ground.data }, { on := 30, ground := Ground.data }], guard := none }) (v := .int .i64 (sf + q)) rfl (by kernel_rfl) (by kernel_rfl) (by kernel_rfl) (fun _ _ _ h => hp _ _ _ _ h) (.inl ⟨by kernel_rfl, fun V hV => ?_⟩) hS ?_
    · have s0 := hV
      try obtain ⟨s1, s2⟩ := s0
      go_split_ands
      go_simp
      all_goals (first | assumption | skip)
    simp only [Act.put, List.setIfInBounds_toArray, List.set_cons_zero, List.set_cons_succ]
    refine wpAnyH_take (i := 32) (oi := { dst := some 47, op := Op.indexAddr 33 (Operand.tmp 18) (Operand.tmp 19), type := 0, pos := "top01.go:158", after := #[{ on := 3, ground := Ground.data }, { on := 4, ground := Ground.data }, { on := 0, ground := Ground.phase }, { on := 1, ground := Ground.phase }, { on := 2, ground := Ground.phase }, { on := 3, ground := Ground.phase }, { on := 4, ground := Ground.phase }, { on := 5, ground := Ground.phase }, { on := 6, ground := Ground.phase }, { on := 7, ground := Ground.phase }, { on := 8, ground := Ground.phase }, { on := 9, ground := Ground.phase }, { on := 10, ground := Ground.phase }, { on := 11, ground := Ground.phase }, { on := 12, ground := Ground.phase }, { on := 13, ground := Ground.phase }, { on := 14, ground := Ground.phase }, { on := 15, ground := Ground.phase }, { on := 16, ground := Ground.phase }, { on := 17, ground := Ground.phase }, { on := 18, ground := Ground.phase }, { on := 19, ground := Ground.phase }, { on := 20, ground := Ground.phase }, { on := 21, ground := Ground.phase }, { on := 22, ground := Ground.phase }, { on := 23, ground := Ground.phase }, { on := 24, ground := Ground.phase }, { on := 25, ground := Ground.phase }, { on := 26, ground := Ground.phase }, { on := 27, ground := Ground.phase }, { on := 28, ground := Ground.phase }, { on := 29, ground := Ground.phase }, { on := 30, ground := Ground.phase }, { on := 31, ground := Ground.phase }], guard := none }) (v := .pointer (some ⟨gS, i, none⟩)) rfl (by kernel_rfl) (by kernel_rfl) (by kernel_rfl) (fun _ _ _ h => hp _ _ _ _ h) (.inl ⟨by kernel_rfl, fun V hV => ?_⟩) hS ?_
    · have s0 := hV
      try obtain ⟨s1, s2⟩ := s0
      go_split_ands
      go_simp
      all_goals (first | assumption | skip)
    simp only [Act.put, List.setIfInBounds_toArray, List.set_cons_zero, List.set_cons_succ]
    refine wpAnyH_ready (rs := [33]) (by kernel_rfl) (by simp) ?_
    refine (AllReadyH.cons (o := { dst := none, op := Op.store 3 (Operand.tmp 47) (Operand.tmp 46), type := 0, pos := "top01.go:158", after := #[{ on := 32, ground := Ground.data }, { on := 31, ground := Ground.data }, { on := 0, ground := Ground.phase }, { on := 1, ground := Ground.phase }, { on := 2, ground := Ground.phase }, { on := 3, ground := Ground.phase }, { on := 4, ground := Ground.phase }, { on := 5, ground := Ground.phase }, { on := 6, ground := Ground.phase }, { on := 7, ground := Ground.phase }, { on := 8, ground := Ground.phase }, { on := 9, ground := Ground.phase }, { on := 10, ground := Ground.phase }, { on := 11, ground := Ground.phase }, { on := 12, ground := Ground.phase }, { on := 13, ground := Ground.phase }, { on := 14, ground := Ground.phase }, { on := 15, ground := Ground.phase }, { on := 16, ground := Ground.phase }, { on := 17, ground := Ground.phase }, { on := 18, ground := Ground.phase }, { on := 19, ground := Ground.phase }, { on := 20, ground := Ground.phase }, { on := 21, ground := Ground.phase }, { on := 22, ground := Ground.phase }, { on := 23, ground := Ground.phase }, { on := 24, ground := Ground.phase }, { on := 25, ground := Ground.phase }, { on := 26, ground := Ground.phase }, { on := 27, ground := Ground.phase }, { on := 28, ground := Ground.phase }, { on := 29, ground := Ground.phase }, { on := 30, ground := Ground.phase }, { on := 31, ground := Ground.phase }], guard := none }) rfl (fun K hK => ?_) AllReadyH.nil)
    go_simp
    refine hK.out _ _ (hcx _) (fun _ => ?_)
    clear hK K
    try simp only [Act.put, List.setIfInBounds_toArray, List.set_cons_zero, List.set_cons_succ]
    exact wpAnyH_done (Q := calmD Q) (by kernel_rfl) h _
  · go_simp
    refine hK.out _ _ hS (fun _ => ?_)
    clear hK K
    try simp only [Act.put, List.setIfInBounds_toArray, List.set_cons_zero, List.set_cons_succ]
    refine wpAnyH_take (i := 29) (oi := { dst := some 44, op := Op.binOp BinOp.sub 3 (Operand.tmp 36) (Operand.tmp 43) 3, type := 3, pos := "top01.go:158", after := #[{ on := 21, ground := Ground.data }, { on := 28, ground := Ground.data }], guard := none }) (v := .int .i64 ((nv : Int) - sf)) rfl (by kernel_rfl) (by kernel_rfl) (by kernel_rfl) (fun _ _ _ h => hp _ _ _ _ h) (.inl ⟨by kernel_rfl, fun V hV => ?_⟩) hS ?_
    · have s0 := hV
      try obtain ⟨s1, s2⟩ := s0
      go_split_ands
      go_simp
      all_goals (first | assumption | skip)
    simp only [Act.put, List.setIfInBounds_toArray, List.set_cons_zero, List.set_cons_succ]
    refine wpAnyH_take (i := 30) (oi := { dst := some 45, op := Op.call { callee := Callee.builtin Builtin.min, args := #[Operand.tmp 28, Operand.tmp 44], argTypes := #[3, 3] }, type := 3, pos := "top01.go:158", after := #[{ on := 13, ground := Ground.data }, { on := 29, ground := Ground.data }], guard := none }) (v := .int .i64 q) rfl (by kernel_rfl) (by kernel_rfl) (by kernel_rfl) (fun _ _ _ h => hp _ _ _ _ h) (.inl ⟨by kernel_rfl, fun V hV => ?_⟩) hS ?_
    · have s0 := hV
      try obtain ⟨s1, s2⟩ := s0
      go_split_ands
      go_simp
      all_goals (first | assumption | skip)
    simp only [Act.put, List.setIfInBounds_toArray, List.set_cons_zero, List.set_cons_succ]
    refine wpAnyH_ready (rs := [11]) (by kernel_rfl) (by simp) ?_
    refine (AllReadyH.cons (o := { dst := some 26, op := Op.load 3 (Operand.tmp 25), type := 3, pos := "top01.go:158", after := #[{ on := 10, ground := Ground.data }], guard := none }) rfl (fun K hK => ?_) AllReadyH.nil)
    go_simp
    refine hK.out _ _ hS (fun _ => ?_)
    clear hK K
    try simp only [Act.put, List.setIfInBounds_toArray, List.set_cons_zero, List.set_cons_succ]
    refine wpAnyH_take (i := 31) (oi := { dst := some 46, op := Op.binOp BinOp.add 3 (Operand.tmp 26) (Operand.tmp 45) 3, type := 3, pos := "top01.go:158", after := #[{ on := 11, ground := Ground.data }, { on := 30, ground := Ground.data }], guard := none }) (v := .int .i64 (sf + q)) rfl (by kernel_rfl) (by kernel_rfl) (by kernel_rfl) (fun _ _ _ h => hp _ _ _ _ h) (.inl ⟨by kernel_rfl, fun V hV => ?_⟩) hS ?_
    · have s0 := hV
      try obtain ⟨s1, s2⟩ := s0
      go_split_ands
      go_simp
      all_goals (first | assumption | skip)
    simp only [Act.put, List.setIfInBounds_toArray, List.set_cons_zero, List.set_cons_succ]
    refine wpAnyH_take (i := 32) (oi := { dst := some 47, op := Op.indexAddr 33 (Operand.tmp 18) (Operand.tmp 19), type := 0, pos := "top01.go:158", after := #[{ on := 3, ground := Ground.data }, { on := 4, ground := Ground.data }, { on := 0, ground := Ground.phase }, { on := 1, ground := Ground.phase }, { on := 2, ground := Ground.phase }, { on := 3, ground := Ground.phase }, { on := 4, ground := Ground.phase }, { on := 5, ground := Ground.phase }, { on := 6, ground := Ground.phase }, { on := 7, ground := Ground.phase }, { on := 8, ground := Ground.phase }, { on := 9, ground := Ground.phase }, { on := 10, ground := Ground.phase }, { on := 11, ground := Ground.phase }, { on := 12, ground := Ground.phase }, { on := 13, ground := Ground.phase }, { on := 14, ground := Ground.phase }, { on := 15, ground := Ground.phase }, { on := 16, ground := Ground.phase }, { on := 17, ground := Ground.phase }, { on := 18, ground := Ground.phase }, { on := 19, ground := Ground.phase }, { on := 20, ground := Ground.phase }, { on := 21, ground := Ground.phase }, { on := 22, ground := Ground.phase }, { on := 23, ground := Ground.phase }, { on := 24, ground := Ground.phase }, { on := 25, ground := Ground.phase }, { on := 26, ground := Ground.phase }, { on := 27, ground := Ground.phase }, { on := 28, ground := Ground.phase }, { on := 29, ground := Ground.phase }, { on := 30, ground := Ground.phase }, { on := 31, ground := Ground.phase }], guard := none }) (v := .pointer (some ⟨gS, i, none⟩)) rfl (by kernel_rfl) (by kernel_rfl) (by kernel_rfl) (fun _ _ _ h => hp _ _ _ _ h) (.inl ⟨by kernel_rfl, fun V hV => ?_⟩) hS ?_
    · have s0 := hV
      try obtain ⟨s1, s2⟩ := s0
      go_split_ands
      go_simp
      all_goals (first | assumption | skip)
    simp only [Act.put, List.setIfInBounds_toArray, List.set_cons_zero, List.set_cons_succ]
    refine wpAnyH_ready (rs := [33]) (by kernel_rfl) (by simp) ?_
    refine (AllReadyH.cons (o := { dst := none, op := Op.store 3 (Operand.tmp 47) (Operand.tmp 46), type := 0, pos := "top01.go:158", after := #[{ on := 32, ground := Ground.data }, { on := 31, ground := Ground.data }, { on := 0, ground := Ground.phase }, { on := 1, ground := Ground.phase }, { on := 2, ground := Ground.phase }, { on := 3, ground := Ground.phase }, { on := 4, ground := Ground.phase }, { on := 5, ground := Ground.phase }, { on := 6, ground := Ground.phase }, { on := 7, ground := Ground.phase }, { on := 8, ground := Ground.phase }, { on := 9, ground := Ground.phase }, { on := 10, ground := Ground.phase }, { on := 11, ground := Ground.phase }, { on := 12, ground := Ground.phase }, { on := 13, ground := Ground.phase }, { on := 14, ground := Ground.phase }, { on := 15, ground := Ground.phase }, { on := 16, ground := Ground.phase }, { on := 17, ground := Ground.phase }, { on := 18, ground := Ground.phase }, { on := 19, ground := Ground.phase }, { on := 20, ground := Ground.phase }, { on := 21, ground := Ground.phase }, { on := 22, ground := Ground.phase }, { on := 23, ground := Ground.phase }, { on := 24, ground := Ground.phase }, { on := 25, ground := Ground.phase }, { on := 26, ground := Ground.phase }, { on := 27, ground := Ground.phase }, { on := 28, ground := Ground.phase }, { on := 29, ground := Ground.phase }, { on := 30, ground := Ground.phase }, { on := 31, ground := Ground.phase }], guard := none }) rfl (fun K hK => ?_) AllReadyH.nil)
    go_simp
    refine hK.out _ _ (hcx _) (fun _ => ?_)
    clear hK K
    try simp only [Act.put, List.setIfInBounds_toArray, List.set_cons_zero, List.set_cons_succ]
    exact wpAnyH_done (Q := calmD Q) (by kernel_rfl) h _

def regPc5SOps : Array Oper := #[{ dst := some 48, op := Op.move (Operand.tmp 5), type := 36, pos := "top01.go:160", after := #[], guard := none },
  { dst := some 49, op := Op.move (Operand.tmp 0), type := 30, pos := "top01.go:160", after := #[], guard := none },
  { dst := some 50, op := Op.nilCheck (Operand.tmp 49), type := 0, pos := "top01.go:160", after := #[{ on := 1, ground := Ground.data }], guard := none },
  { dst := some 51, op := Op.fieldAddr 35 (Operand.tmp 50) 1, type := 0, pos := "top01.go:160", after := #[{ on := 2, ground := Ground.data }], guard := none },
  { dst := some 52, op := Op.load 32 (Operand.tmp 51), type := 32, pos := "top01.go:160", after := #[{ on := 3, ground := Ground.data }], guard := none },
  { dst := some 53, op := Op.move (Operand.tmp 4), type := 3, pos := "top01.go:160", after := #[], guard := none },
  { dst := some 54, op := Op.indexAddr 32 (Operand.tmp 52) (Operand.tmp 53), type := 0, pos := "top01.go:160", after := #[{ on := 4, ground := Ground.data }, { on := 5, ground := Ground.data }], guard := none },
  { dst := some 55, op := Op.load 36 (Operand.tmp 54), type := 36, pos := "top01.go:160", after := #[{ on := 6, ground := Ground.data }], guard := none },
  { dst := some 56, op := Op.move (Operand.tmp 0), type := 30, pos := "top01.go:160", after := #[], guard := none },
  { dst := some 57, op := Op.nilCheck (Operand.tmp 56), type := 0, pos := "top01.go:160", after := #[{ on := 8, ground := Ground.data }], guard := none },
  { dst := some 58, op := Op.fieldAddr 35 (Operand.tmp 57) 2, type := 0, pos := "top01.go:160", after := #[{ on := 9, ground := Ground.data }], guard := none },
  { dst := some 59, op := Op.load 33 (Operand.tmp 58), type := 33, pos := "top01.go:160", after := #[{ on := 10, ground := Ground.data }], guard := none },
  { dst := some 60, op := Op.move (Operand.tmp 4), type := 3, pos := "top01.go:160", after := #[], guard := none },
  { dst := some 61, op := Op.indexAddr 33 (Operand.tmp 59) (Operand.tmp 60), type := 0, pos := "top01.go:160", after := #[{ on := 11, ground := Ground.data }, { on := 12, ground := Ground.data }], guard := none },
  { dst := some 62, op := Op.load 3 (Operand.tmp 61), type := 3, pos := "top01.go:160", after := #[{ on := 13, ground := Ground.data }], guard := none },
  { dst := some 63, op := Op.slice 36 (Operand.tmp 55) none (some (Operand.tmp 62)) none, type := 36, pos := "top01.go:160", after := #[{ on := 7, ground := Ground.data }, { on := 14, ground := Ground.data }], guard := none },
  { dst := some 64, op := Op.call { callee := Callee.builtin Builtin.append, args := #[Operand.tmp 48, Operand.tmp 63], argTypes := #[36, 36] }, type := 36, pos := "top01.go:160", after := #[{ on := 0, ground := Ground.data }, { on := 15, ground := Ground.data }], guard := none },
  { dst := some 5, op := Op.assign (Operand.tmp 64), type := 36, pos := "top01.go:160", after := #[{ on := 16, ground := Ground.data }, { on := 16, ground := Ground.chain }, { on := 0, ground := Ground.phase }, { on := 1, ground := Ground.phase }, { on := 2, ground := Ground.phase }, { on := 3, ground := Ground.phase }, { on := 4, ground := Ground.phase }, { on := 5, ground := Ground.phase }, { on := 6, ground := Ground.phase }, { on := 7, ground := Ground.phase }, { on := 8, ground := Ground.phase }, { on := 9, ground := Ground.phase }, { on := 10, ground := Ground.phase }, { on := 11, ground := Ground.phase }, { on := 12, ground := Ground.phase }, { on := 13, ground := Ground.phase }, { on := 14, ground := Ground.phase }, { on := 15, ground := Ground.phase }, { on := 16, ground := Ground.phase }], guard := none }]
set_option maxRecDepth 100000 in
set_option maxHeartbeats 4000000 in
theorem regPc5S (Q : Exit → Act → World → Prop) (x gB gS nf cB cS i : Nat) (zs : List Int) (gv nv cv k : Nat) {t1 t2 t3 t6 t7 t8 t9 t10 t11 t12 t13 t14 t15 t16 t17 t18 t19 t20 t21 t22 t23 t24 t25 t26 t27 t28 t29 t30 t31 t32 t33 t34 t35 t36 t37 t38 t39 t40 t41 t42 t43 t44 t45 t46 t47 t48 t49 t50 t51 t52 t53 t54 t55 t56 t57 t58 t59 t60 t61 t62 t63 t64 t65 t66 t67 t68 t69 t70 t71 t72 t73 t74 t75 t76 t77 : Value} (W : World)
    (hk0 : (0 : Int) ≤ (k : Int)) (hkc : (k : Int) ≤ (cv : Int)) (hkb : k ≤ 1099511627776) (hin : (i : Int) < (nf : Int)) (hl : zs.length = k) (hzl : Lies .u8 W.drew (some ⟨gv, 0, none⟩) zs) (hcv : ∀ V, W.drew.grownBy V (Value.slice none 0 0).ownBlock → V.cell? ⟨x, 1, none⟩ = some (.slice (some ⟨gB, 0, none⟩) nf cB) ∧ V.cell? ⟨x, 2, none⟩ = some (.slice (some ⟨gS, 0, none⟩) nf cS) ∧ V.cell? ⟨gB, i, none⟩ = some (.slice (some ⟨gv, 0, none⟩) nv cv) ∧ V.cell? ⟨gS, i, none⟩ = some (.int .i64 ((k : Nat) : Int)))
    (h : ∀ v' w', w'.ownsRow 0 5 1 v' k (zs.map (Value.int .u8)) → W.drew.grownBy w' (Value.slice none 0 0).ownBlock → (v'.ownBlock = (Value.slice none 0 0).ownBlock ∨ ∃ g, v'.ownBlock = some g ∧ W.heap.size ≤ g) → Q .normal { tmps := (.pointer (some ⟨x, 0, none⟩) :: t1 :: t2 :: t3 :: .int .i64 (i : Int) :: v' :: t6 :: t7 :: t8 :: t9 :: t10 :: t11 :: t12 :: t13 :: t14 :: t15 :: t16 :: t17 :: t18 :: t19 :: t20 :: t21 :: t22 :: t23 :: t24 :: t25 :: t26 :: t27 :: t28 :: t29 :: t30 :: t31 :: t32 :: t33 :: t34 :: t35 :: t36 :: t37 :: t38 :: t39 :: t40 :: t41 :: t42 :: t43 :: t44 :: t45 :: t46 :: t47 :: .slice none 0 0 :: .pointer (some ⟨x, 0, none⟩) :: .pointer (some ⟨x, 0, none⟩) :: .pointer (some ⟨x, 1, none⟩) :: .slice (some ⟨gB, 0, none⟩) nf cB :: .int .i64 (i : Int) :: .pointer (some ⟨gB, i, none⟩) :: .slice (some ⟨gv, 0, none⟩) nv cv :: .pointer (some ⟨x, 0, none⟩) :: .pointer (some ⟨x, 0, none⟩) :: .pointer (some ⟨x, 2, none⟩) :: .slice (some ⟨gS, 0, none⟩) nf cS :: .int .i64 (i : Int) :: .pointer (some ⟨gS, i, none⟩) :: .int .i64 ((k : Nat) : Int) :: .slice (some ⟨gv, 0, none⟩) k cv :: v' :: t65 :: t66 :: t67 :: t68 :: t69 :: t70 :: t71 :: t72 :: t73 :: t74 :: t75 :: t76 :: t77 :: []).toArray, defers := [] } w') :
    (Code.region 5 regPc5SOps true).wp Tryd.prog Q { tmps := (.pointer (some ⟨x, 0, none⟩) :: t1 :: t2 :: t3 :: .int .i64 (i : Int) :: .slice none 0 0 :: t6 :: t7 :: t8 :: t9 :: t10 :: t11 :: t12 :: t13 :: t14 :: t15 :: t16 :: t17 :: t18 :: t19 :: t20 :: t21 :: t22 :: t23 :: t24 :: t25 :: t26 :: t27 :: t28 :: t29 :: t30 :: t31 :: t32 :: t33 :: t34 :: t35 :: t36 :: t37 :: t38 :: t39 :: t40 :: t41 :: t42 :: t43 :: t44 :: t45 :: t46 :: t47 :: t48 :: t49 :: t50 :: t51 :: t52 :: t53 :: t54 :: t55 :: t56 :: t57 :: t58 :: t59 :: t60 :: t61 :: t62 :: t63 :: t64 :: t65 :: t66 :: t67 :: t68 :: t69 :: t70 :: t71 :: t72 :: t73 :: t74 :: t75 :: t76 :: t77 :: []).toArray, defers := [] } W := by
  refine Code.wp_mono (fun _ _ _ h => calmD_le h) ?_
  have hp : ∀ c a a' w, calmD Q (.panic c) a w → calmD Q (.panic c) a' w := fun _ _ _ _ h => h
  refine wp_region_held (S := fun V => V.cell? ⟨x, 1, none⟩ = some (.slice (some ⟨gB, 0, none⟩) nf cB) ∧ V.cell? ⟨x, 2, none⟩ = some (.slice (some ⟨gS, 0, none⟩) nf cS) ∧ V.cell? ⟨gB, i, none⟩ = some (.slice (some ⟨gv, 0, none⟩) nv cv) ∧ V.cell? ⟨gS, i, none⟩ = some (.int .i64 ((k : Nat) : Int))) (by kernel_rfl) ?_
  change wpAnyH _ _ _ _ _ _ _ _ W.drew
  have hi0 : (0 : Int) ≤ (i : Int) := by omega
  have hS := hcv W.drew ⟨rfl, rfl, rfl, Nat.le_refl _, fun _ _ _ => rfl⟩
  refine wpAnyH_take (i := 0) (oi := { dst := some 48, op := Op.move (Operand.tmp 5), type := 36, pos := "top01.go:160", after := #[], guard := none }) (v := .slice none 0 0) rfl (by kernel_rfl) (by kernel_rfl) (by kernel_rfl) (fun _ _ _ h => hp _ _ _ _ h) (.inl ⟨by kernel_rfl, fun V hV => ?_⟩) hS ?_
  · have s0 := hV
    try obtain ⟨s1, s2⟩ := s0
    go_split_ands
    go_simp
    all_goals (first | assumption | skip)
  simp only [Act.put, List.setIfInBounds_toArray, List.set_cons_zero, List.set_cons_succ]
  refine wpAnyH_take (i := 1) (oi := { dst := some 49, op := Op.move (Operand.tmp 0), type := 30, pos := "top01.go:160", after := #[], guard := none }) (v := .pointer (some ⟨x, 0, none⟩)) rfl (by kernel_rfl) (by kernel_rfl) (by kernel_rfl) (fun _ _ _ h => hp _ _ _ _ h) (.inl ⟨by kernel_rfl, fun V hV => ?_⟩) hS ?_
  · have s0 := hV
    try obtain ⟨s1, s2⟩ := s0
    go_split_ands
    go_simp
    all_goals (first | assumption | skip)
  simp only [Act.put, List.setIfInBounds_toArray, List.set_cons_zero, List.set_cons_succ]
  refine wpAnyH_take (i := 2) (oi := { dst := some 50, op := Op.nilCheck (Operand.tmp 49), type := 0, pos := "top01.go:160", after := #[{ on := 1, ground := Ground.data }], guard := none }) (v := .pointer (some ⟨x, 0, none⟩)) rfl (by kernel_rfl) (by kernel_rfl) (by kernel_rfl) (fun _ _ _ h => hp _ _ _ _ h) (.inl ⟨by kernel_rfl, fun V hV => ?_⟩) hS ?_
  · have s0 := hV
    try obtain ⟨s1, s2⟩ := s0
    go_split_ands
    go_simp
    all_goals (first | assumption | skip)
  simp only [Act.put, List.setIfInBounds_toArray, List.set_cons_zero, List.set_cons_succ]
  refine wpAnyH_take (i := 3) (oi := { dst := some 51, op := Op.fieldAddr 35 (Operand.tmp 50) 1, type := 0, pos := "top01.go:160", after := #[{ on := 2, ground := Ground.data }], guard := none }) (v := .pointer (some ⟨x, 1, none⟩)) rfl (by kernel_rfl) (by kernel_rfl) (by kernel_rfl) (fun _ _ _ h => hp _ _ _ _ h) (.inl ⟨by kernel_rfl, fun V hV => ?_⟩) hS ?_
  · have s0 := hV
    try obtain ⟨s1, s2⟩ := s0
    go_split_ands
    go_simp
    all_goals (first | assumption | skip)
  simp only [Act.put, List.setIfInBounds_toArray, List.set_cons_zero, List.set_cons_succ]
  refine wpAnyH_take (i := 4) (oi := { dst := some 52, op := Op.load 32 (Operand.tmp 51), type := 32, pos := "top01.go:160", after := #[{ on := 3, ground := Ground.data }], guard := none }) (v := .slice (some ⟨gB, 0, none⟩) nf cB) rfl (by kernel_rfl) (by kernel_rfl) (by kernel_rfl) (fun _ _ _ h => hp _ _ _ _ h) (.inl ⟨by kernel_rfl, fun V hV => ?_⟩) hS ?_
  · have s0 := hV
    try obtain ⟨s1, s2⟩ := s0
    go_split_ands
    go_simp
    all_goals (first | assumption | skip)
  simp only [Act.put, List.setIfInBounds_toArray, List.set_cons_zero, List.set_cons_succ]
  refine wpAnyH_take (i := 5) (oi := { dst := some 53, op := Op.move (Operand.tmp 4), type := 3, pos := "top01.go:160", after := #[], guard := none }) (v := .int .i64 (i : Int)) rfl (by kernel_rfl) (by kernel_rfl) (by kernel_rfl) (fun _ _ _ h => hp _ _ _ _ h) (.inl ⟨by kernel_rfl, fun V hV => ?_⟩) hS ?_
  · have s0 := hV
    try obtain ⟨s1, s2⟩ := s0
    go_split_ands
    go_simp
    all_goals (first | assumption | skip)
  simp only [Act.put, List.setIfInBounds_toArray, List.set_cons_zero, List.set_cons_succ]
  refine wpAnyH_take (i := 6) (oi := { dst := some 54, op := Op.indexAddr 32 (Operand.tmp 52) (Operand.tmp 53), type := 0, pos := "top01.go:160", after := #[{ on := 4, ground := Ground.data }, { on := 5, ground := Ground.data }], guard := none }) (v := .pointer (some ⟨gB, i, none⟩)) rfl (by kernel_rfl) (by kernel_rfl) (by kernel_rfl) (fun _ _ _ h => hp _ _ _ _ h) (.inl ⟨by kernel_rfl, fun V hV => ?_⟩) hS ?_
  · have s0 := hV
    try obtain ⟨s1, s2⟩ := s0
    go_split_ands
    go_simp
    all_goals (first | assumption | skip)
  simp only [Act.put, List.setIfInBounds_toArray, List.set_cons_zero, List.set_cons_succ]
  refine wpAnyH_take (i := 7) (oi := { dst := some 55, op := Op.load 36 (Operand.tmp 54), type := 36, pos := "top01.go:160", after := #[{ on := 6, ground := Ground.data }], guard := none }) (v := .slice (some ⟨gv, 0, none⟩) nv cv) rfl (by kernel_rfl) (by kernel_rfl) (by kernel_rfl) (fun _ _ _ h => hp _ _ _ _ h) (.inl ⟨by kernel_rfl, fun V hV => ?_⟩) hS ?_
  · have s0 := hV
    try obtain ⟨s1, s2⟩ := s0
    go_split_ands
    go_simp
    all_goals (first | assumption | skip)
  simp only [Act.put, List.setIfInBounds_toArray, List.set_cons_zero, List.set_cons_succ]
  refine wpAnyH_take (i := 8) (oi := { dst := some 56, op := Op.move (Operand.tmp 0), type := 30, pos := "top01.go:160", after := #[], guard := none }) (v := .pointer (some ⟨x, 0, none⟩)) rfl (by kernel_rfl) (by kernel_rfl) (by kernel_rfl) (fun _ _ _ h => hp _ _ _ _ h) (.inl ⟨by kernel_rfl, fun V hV => ?_⟩) hS ?_
  · have s0 := hV
    try obtain ⟨s1, s2⟩ := s0
    go_split_ands
    go_simp
    all_goals (first | assumption | skip)
  simp only [Act.put, List.setIfInBounds_toArray, List.set_cons_zero, List.set_cons_succ]
  refine wpAnyH_take (i := 9) (oi := { dst := some 57, op := Op.nilCheck (Operand.tmp 56), type := 0, pos := "top01.go:160", after := #[{ on := 8, ground := Ground.data }], guard := none }) (v := .pointer (some ⟨x, 0, none⟩)) rfl (by kernel_rfl) (by kernel_rfl) (by kernel_rfl) (fun _ _ _ h => hp _ _ _ _ h) (.inl ⟨by kernel_rfl, fun V hV => ?_⟩) hS ?_
  · have s0 := hV
    try obtain ⟨s1, s2⟩ := s0
    go_split_ands
    go_simp
    all_goals (first | assumption | skip)
  simp only [Act.put, List.setIfInBounds_toArray, List.set_cons_zero, List.set_cons_succ]
  refine wpAnyH_take (i := 10) (oi := { dst := some 58, op := Op.fieldAddr 35 (Operand.tmp 57) 2, type := 0, pos := "top01.go:160", after := #[{ on := 9, ground := Ground.data }], guard := none }) (v := .pointer (some ⟨x, 2, none⟩)) rfl (by kernel_rfl) (by kernel_rfl) (by kernel_rfl) (fun _ _ _ h => hp _ _ _ _ h) (.inl ⟨by kernel_rfl, fun V hV => ?_⟩) hS ?_
  · have s0 := hV
    try obtain ⟨s1, s2⟩ := s0
    go_split_ands
    go_simp
    all_goals (first | assumption | skip)
  simp only [Act.put, List.setIfInBounds_toArray, List.set_cons_zero, List.set_cons_succ]
  refine wpAnyH_take (i := 11) (oi := { dst := some 59, op := Op.load 33 (Operand.tmp 58), type := 33, pos := "top01.go:160", after := #[{ on := 10, ground := Ground.data }], guard := none }) (v := .slice (some ⟨gS, 0, none⟩) nf cS) rfl (by kernel_rfl) (by kernel_rfl) (by kernel_rfl) (fun _ _ _ h => hp _ _ _ _ h) (.inl ⟨by kernel_rfl, fun V hV => ?_⟩) hS ?_
  · have s0 := hV
    try obtain ⟨s1, s2⟩ := s0
    go_split_ands
    go_simp
    all_goals (first | assumption | skip)
  simp only [Act.put, List.setIfInBounds_toArray, List.set_cons_zero, List.set_cons_succ]
  refine wpAnyH_take (i := 12) (oi := { dst := some 60, op := Op.move (Operand.tmp 4), type := 3, pos := "top01.go:160", after := #[], guard := none }) (v := .int .i64 (i : Int)) rfl (by kernel_rfl) (by kernel_rfl) (by kernel_rfl) (fun _ _ _ h => hp _ _ _ _ h) (.inl ⟨by kernel_rfl, fun V hV => ?_⟩) hS ?_
  · have s0 := hV
    try obtain ⟨s1, s2⟩ := s0
    go_split_ands
    go_simp
    all_goals (first | assumption | skip)
  simp only [Act.put, List.setIfInBounds_toArray, List.set_cons_zero, List.set_cons_succ]
  refine wpAnyH_take (i := 13) (oi := { dst := some 61, op := Op.indexAddr 33 (Operand.tmp 59) (Operand.tmp 60), type := 0, pos := "top01.go:160", after := #[{ on := 11, ground := Ground.data }, { on := 12, ground := Ground.data }], guard := none }) (v := .pointer (some ⟨gS, i, none⟩)) rfl (by kernel_rfl) (by kernel_rfl) (by kernel_rfl) (fun _ _ _ h => hp _ _ _ _ h) (.inl ⟨by kernel_rfl, fun V hV => ?_⟩) hS ?_
  · have s0 := hV
    try obtain ⟨s1, s2⟩ := s0
    go_split_ands
    go_simp
    all_goals (first | assumption | skip)
  simp only [Act.put, List.setIfInBounds_toArray, List.set_cons_zero, List.set_cons_succ]
  refine wpAnyH_take (i := 14) (oi := { dst := some 62, op := Op.load 3 (Operand.tmp 61), type := 3, pos := "top01.go:160", after := #[{ on := 13, ground := Ground.data }], guard := none }) (v := .int .i64 ((k : Nat) : Int)) rfl (by kernel_rfl) (by kernel_rfl) (by kernel_rfl) (fun _ _ _ h => hp _ _ _ _ h) (.inl ⟨by kernel_rfl, fun V hV => ?_⟩) hS ?_
  · have s0 := hV
    try obtain ⟨s1, s2⟩ := s0
    go_split_ands
    go_simp
    all_goals (first | assumption | skip)
  simp only [Act.put, List.setIfInBounds_toArray, List.set_cons_zero, List.set_cons_succ]
  refine wpAnyH_take (i := 15) (oi := { dst := some 63, op := Op.slice 36 (Operand.tmp 55) none (some (Operand.tmp 62)) none, type := 36, pos := "top01.go:160", after := #[{ on := 7, ground := Ground.data }, { on := 14, ground := Ground.data }], guard := none }) (v := .slice (some ⟨gv, 0, none⟩) k cv) rfl (by kernel_rfl) (by kernel_rfl) (by kernel_rfl) (fun _ _ _ h => hp _ _ _ _ h) (.inl ⟨by kernel_rfl, fun V hV => ?_⟩) hS ?_
  · have s0 := hV
    try obtain ⟨s1, s2⟩ := s0
    go_split_ands
    go_simp
    all_goals (first | assumption | skip)
  simp only [Act.put, List.setIfInBounds_toArray, List.set_cons_zero, List.set_cons_succ]
  refine wpAnyH_all (rs := [16]) (by kernel_rfl) (by simp) ?_
  intro i hiX
  obtain rfl : i = 16 := by simpa using hiX
  refine appB_opD (j := 16) (o := { dst := some 64, op := Op.call { callee := Callee.builtin Builtin.append, args := #[Operand.tmp 48, Operand.tmp 63], argTypes := #[36, 36] }, type := 36, pos := "top01.go:160", after := #[{ on := 0, ground := Ground.data }, { on := 15, ground := Ground.data }], guard := none }) rfl rfl (.tmp 48) (.tmp 63) rfl (.slice none 0 0) 0 [] (by simp [Act.eval]) (w := W.drew) (World.ownsRow_nil _ _ _ _) (some ⟨gv, 0, none⟩) k cv zs (by simp [Act.eval]) hl hzl (by simp) (by omega) ?_
  intro v' w' r1 r2 r3
  rw [Nat.zero_add] at r1
  have hS2 := hcv w' r2
  refine ⟨hS2, ?_⟩
  have hfin := h v' w' (by simpa using r1) r2 (r3.elim (fun e => .inl e) (fun e => .inr ⟨_, e, by simp⟩))
  obtain ⟨a1, n1, rfl⟩ := d_shape r1
  try simp only [Act.put, List.setIfInBounds_toArray, List.set_cons_zero, List.set_cons_succ]
  refine wpAnyH_take (i := 17) (oi := { dst := some 5, op := Op.assign (Operand.tmp 64), type := 36, pos := "top01.go:160", after := #[{ on := 16, ground := Ground.data }, { on := 16, ground := Ground.chain }, { on := 0, ground := Ground.phase }, { on := 1, ground := Ground.phase }, { on := 2, ground := Ground.phase }, { on := 3, ground := Ground.phase }, { on := 4, ground := Ground.phase }, { on := 5, ground := Ground.phase }, { on := 6, ground := Ground.phase }, { on := 7, ground := Ground.phase }, { on := 8, ground := Ground.phase }, { on := 9, ground := Ground.phase }, { on := 10, ground := Ground.phase }, { on := 11, ground := Ground.phase }, { on := 12, ground := Ground.phase }, { on := 13, ground := Ground.phase }, { on := 14, ground := Ground.phase }, { on := 15, ground := Ground.phase }, { on := 16, ground := Ground.phase }], guard := none }) (v := .slice a1 k n1) rfl (by kernel_rfl) (by kernel_rfl) (by kernel_rfl) (fun _ _ _ h => hp _ _ _ _ h) (.inl ⟨by kernel_rfl, fun V hV => ?_⟩) hS2 ?_
  · have s0 := hV
    try obtain ⟨s1, s2⟩ := s0
    go_split_ands
    go_simp
    all_goals (first | assumption | skip)
  simp only [Act.put, List.setIfInBounds_toArray, List.set_cons_zero, List.set_cons_succ]
  exact wpAnyH_done (Q := calmD Q) (by kernel_rfl) hfin _

def regPc5NOps : Array Oper := #[{ dst := some 48, op := Op.move (Operand.tmp 5), type := 36, pos := "top01.go:160", after := #[], guard := none },
  { dst := some 49, op := Op.move (Operand.tmp 0), type := 30, pos := "top01.go:160", after := #[], guard := none },
  { dst := some 50, op := Op.nilCheck (Operand.tmp 49), type := 0, pos := "top01.go:160", after := #[{ on := 1, ground := Ground.data }], guard := none },
  { dst := some 51, op := Op.fieldAddr 35 (Operand.tmp 50) 1, type := 0, pos := "top01.go:160", after := #[{ on := 2, ground := Ground.data }], guard := none },
  { dst := some 52, op := Op.load 32 (Operand.tmp 51), type := 32, pos := "top01.go:160", after := #[{ on := 3, ground := Ground.data }], guard := none },
  { dst := some 53, op := Op.move (Operand.tmp 4), type := 3, pos := "top01.go:160", after := #[], guard := none },
  { dst := some 54, op := Op.indexAddr 32 (Operand.tmp 52) (Operand.tmp 53), type := 0, pos := "top01.go:160", after := #[{ on := 4, ground := Ground.data }, { on := 5, ground := Ground.data }], guard := none },
  { dst := some 55, op := Op.load 36 (Operand.tmp 54), type := 36, pos := "top01.go:160", after := #[{ on := 6, ground := Ground.data }], guard := none },
  { dst := some 56, op := Op.move (Operand.tmp 0), type := 30, pos := "top01.go:160", after := #[], guard := none },
  { dst := some 57, op := Op.nilCheck (Operand.tmp 56), type := 0, pos := "top01.go:160", after := #[{ on := 8, ground := Ground.data }], guard := none },
  { dst := some 58, op := Op.fieldAddr 35 (Operand.tmp 57) 2, type := 0, pos := "top01.go:160", after := #[{ on := 9, ground := Ground.data }], guard := none },
  { dst := some 59, op := Op.load 33 (Operand.tmp 58), type := 33, pos := "top01.go:160", after := #[{ on := 10, ground := Ground.data }], guard := none },
  { dst := some 60, op := Op.move (Operand.tmp 4), type := 3, pos := "top01.go:160", after := #[], guard := none },
  { dst := some 61, op := Op.indexAddr 33 (Operand.tmp 59) (Operand.tmp 60), type := 0, pos := "top01.go:160", after := #[{ on := 11, ground := Ground.data }, { on := 12, ground := Ground.data }], guard := none },
  { dst := some 62, op := Op.load 3 (Operand.tmp 61), type := 3, pos := "top01.go:160", after := #[{ on := 13, ground := Ground.data }], guard := none },
  { dst := some 63, op := Op.slice 36 (Operand.tmp 55) none (some (Operand.tmp 62)) none, type := 36, pos := "top01.go:160", after := #[{ on := 7, ground := Ground.data }, { on := 14, ground := Ground.data }], guard := none },
  { dst := some 64, op := Op.call { callee := Callee.builtin Builtin.append, args := #[Operand.tmp 48, Operand.tmp 63], argTypes := #[36, 36] }, type := 36, pos := "top01.go:160", after := #[{ on := 0, ground := Ground.data }, { on := 15, ground := Ground.data }], guard := none },
  { dst := some 5, op := Op.assign (Operand.tmp 64), type := 36, pos := "top01.go:160", after := #[{ on := 16, ground := Ground.data }, { on := 16, ground := Ground.chain }, { on := 0, ground := Ground.phase }, { on := 1, ground := Ground.phase }, { on := 2, ground := Ground.phase }, { on := 3, ground := Ground.phase }, { on := 4, ground := Ground.phase }, { on := 5, ground := Ground.phase }, { on := 6, ground := Ground.phase }, { on := 7, ground := Ground.phase }, { on := 8, ground := Ground.phase }, { on := 9, ground := Ground.phase }, { on := 10, ground := Ground.phase }, { on := 11, ground := Ground.phase }, { on := 12, ground := Ground.phase }, { on := 13, ground := Ground.phase }, { on := 14, ground := Ground.phase }, { on := 15, ground := Ground.phase }, { on := 16, ground := Ground.phase }], guard := none }]
set_option maxRecDepth 100000 in
set_option maxHeartbeats 4000000 in
theorem regPc5N (Q : Exit → Act → World → Prop) (x gB gS nf cB cS i : Nat) (zs : List Int) {t1 t2 t3 t6 t7 t8 t9 t10 t11 t12 t13 t14 t15 t16 t17 t18 t19 t20 t21 t22 t23 t24 t25 t26 t27 t28 t29 t30 t31 t32 t33 t34 t35 t36 t37 t38 t39 t40 t41 t42 t43 t44 t45 t46 t47 t48 t49 t50 t51 t52 t53 t54 t55 t56 t57 t58 t59 t60 t61 t62 t63 t64 t65 t66 t67 t68 t69 t70 t71 t72 t73 t74 t75 t76 t77 : Value} (W : World)
    (hin : (i : Int) < (nf : Int)) (hl : zs.length = 0) (hzl : Lies .u8 W.drew none zs) (hcv : ∀ V, W.drew.grownBy V (Value.slice none 0 0).ownBlock → V.cell? ⟨x, 1, none⟩ = some (.slice (some ⟨gB, 0, none⟩) nf cB) ∧ V.cell? ⟨x, 2, none⟩ = some (.slice (some ⟨gS, 0, none⟩) nf cS) ∧ V.cell? ⟨gB, i, none⟩ = some (.slice none 0 0) ∧ V.cell? ⟨gS, i, none⟩ = some (.int .i64 0))
    (h : ∀ v' w', w'.ownsRow 0 5 1 v' 0 (zs.map (Value.int .u8)) → W.drew.grownBy w' (Value.slice none 0 0).ownBlock → (v'.ownBlock = (Value.slice none 0 0).ownBlock ∨ ∃ g, v'.ownBlock = some g ∧ W.heap.size ≤ g) → Q .normal { tmps := (.pointer (some ⟨x, 0, none⟩) :: t1 :: t2 :: t3 :: .int .i64 (i : Int) :: v' :: t6 :: t7 :: t8 :: t9 :: t10 :: t11 :: t12 :: t13 :: t14 :: t15 :: t16 :: t17 :: t18 :: t19 :: t20 :: t21 :: t22 :: t23 :: t24 :: t25 :: t26 :: t27 :: t28 :: t29 :: t30 :: t31 :: t32 :: t33 :: t34 :: t35 :: t36 :: t37 :: t38 :: t39 :: t40 :: t41 :: t42 :: t43 :: t44 :: t45 :: t46 :: t47 :: .slice none 0 0 :: .pointer (some ⟨x, 0, none⟩) :: .pointer (some ⟨x, 0, none⟩) :: .pointer (some ⟨x, 1, none⟩) :: .slice (some ⟨gB, 0, none⟩) nf cB :: .int .i64 (i : Int) :: .pointer (some ⟨gB, i, none⟩) :: .slice none 0 0 :: .pointer (some ⟨x, 0, none⟩) :: .pointer (some ⟨x, 0, none⟩) :: .pointer (some ⟨x, 2, none⟩) :: .slice (some ⟨gS, 0, none⟩) nf cS :: .int .i64 (i : Int) :: .pointer (some ⟨gS, i, none⟩) :: .int .i64 0 :: .slice none 0 0 :: v' :: t65 :: t66 :: t67 :: t68 :: t69 :: t70 :: t71 :: t72 :: t73 :: t74 :: t75 :: t76 :: t77 :: []).toArray, defers := [] } w') :
    (Code.region 5 regPc5NOps true).wp Tryd.prog Q { tmps := (.pointer (some ⟨x, 0, none⟩) :: t1 :: t2 :: t3 :: .int .i64 (i : Int) :: .slice none 0 0 :: t6 :: t7 :: t8 :: t9 :: t10 :: t11 :: t12 :: t13 :: t14 :: t15 :: t16 :: t17 :: t18 :: t19 :: t20 :: t21 :: t22 :: t23 :: t24 :: t25 :: t26 :: t27 :: t28 :: t29 :: t30 :: t31 :: t32 :: t33 :: t34 :: t35 :: t36 :: t37 :: t38 :: t39 :: t40 :: t41 :: t42 :: t43 :: t44 :: t45 :: t46 :: t47 :: t48 :: t49 :: t50 :: t51 :: t52 :: t53 :: t54 :: t55 :: t56 :: t57 :: t58 :: t59 :: t60 :: t61 :: t62 :: t63 :: t64 :: t65 :: t66 :: t67 :: t68 :: t69 :: t70 :: t71 :: t72 :: t73 :: t74 :: t75 :: t76 :: t77 :: []).toArray, defers := [] } W := by
  refine Code.wp_mono (fun _ _ _ h => calmD_le h) ?_
  have hp : ∀ c a a' w, calmD Q (.panic c) a w → calmD Q (.panic c) a' w := fun _ _ _ _ h => h
  refine wp_region_held (S := fun V => V.cell? ⟨x, 1, none⟩ = some (.slice (some ⟨gB, 0, none⟩) nf cB) ∧ V.cell? ⟨x, 2, none⟩ = some (.slice (some ⟨gS, 0, none⟩) nf cS) ∧ V.cell? ⟨gB, i, none⟩ = some (.slice none 0 0) ∧ V.cell? ⟨gS, i, none⟩ = some (.int .i64 0)) (by kernel_rfl) ?_
  change wpAnyH _ _ _ _ _ _ _ _ W.drew
  have hi0 : (0 : Int) ≤ (i : Int) := by omega
  have hS := hcv W.drew ⟨rfl, rfl, rfl, Nat.le_refl _, fun _ _ _ => rfl⟩
  refine wpAnyH_take (i := 0) (oi := { dst := some 48, op := Op.move (Operand.tmp 5), type := 36, pos := "top01.go:160", after := #[], guard := none }) (v := .slice none 0 0) rfl (by kernel_rfl) (by kernel_rfl) (by kernel_rfl) (fun _ _ _ h => hp _ _ _ _ h) (.inl ⟨by kernel_rfl, fun V hV => ?_⟩) hS ?_
  · have s0 := hV
    try obtain ⟨s1, s2⟩ := s0
    go_split_ands
    go_simp
    all_goals (first | assumption | skip)
  simp only [Act.put, List.setIfInBounds_toArray, List.set_cons_zero, List.set_cons_succ]
  refine wpAnyH_take (i := 1) (oi := { dst := some 49, op := Op.move (Operand.tmp 0), type := 30, pos := "top01.go:160", after := #[], guard := none }) (v := .pointer (some ⟨x, 0, none⟩)) rfl (by kernel_rfl) (by kernel_rfl) (by kernel_rfl) (fun _ _ _ h => hp _ _ _ _ h) (.inl ⟨by kernel_rfl, fun V hV => ?_⟩) hS ?_
  · have s0 := hV
    try obtain ⟨s1, s2⟩ := s0
    go_split_ands
    go_simp
    all_goals (first | assumption | skip)
  simp only [Act.put, List.setIfInBounds_toArray, List.set_cons_zero, List.set_cons_succ]
  refine wpAnyH_take (i := 2) (oi := { dst := some 50, op := Op.nilCheck (Operand.tmp 49), type := 0, pos := "top01.go:160", after := #[{ on := 1, ground := Ground.data }], guard := none }) (v := .pointer (some ⟨x, 0, none⟩)) rfl (by kernel_rfl) (by kernel_rfl) (by kernel_rfl) (fun _ _ _ h => hp _ _ _ _ h) (.inl ⟨by kernel_rfl, fun V hV => ?_⟩) hS ?_
  · have s0 := hV
    try obtain ⟨s1, s2⟩ := s0
    go_split_ands
    go_simp
    all_goals (first | assumption | skip)
  simp only [Act.put, List.setIfInBounds_toArray, List.set_cons_zero, List.set_cons_succ]
  refine wpAnyH_take (i := 3) (oi := { dst := some 51, op := Op.fieldAddr 35 (Operand.tmp 50) 1, type := 0, pos := "top01.go:160", after := #[{ on := 2, ground := Ground.data }], guard := none }) (v := .pointer (some ⟨x, 1, none⟩)) rfl (by kernel_rfl) (by kernel_rfl) (by kernel_rfl) (fun _ _ _ h => hp _ _ _ _ h) (.inl ⟨by kernel_rfl, fun V hV => ?_⟩) hS ?_
  · have s0 := hV
    try obtain ⟨s1, s2⟩ := s0
    go_split_ands
    go_simp
    all_goals (first | assumption | skip)
  simp only [Act.put, List.setIfInBounds_toArray, List.set_cons_zero, List.set_cons_succ]
  refine wpAnyH_take (i := 4) (oi := { dst := some 52, op := Op.load 32 (Operand.tmp 51), type := 32, pos := "top01.go:160", after := #[{ on := 3, ground := Ground.data }], guard := none }) (v := .slice (some ⟨gB, 0, none⟩) nf cB) rfl (by kernel_rfl) (by kernel_rfl) (by kernel_rfl) (fun _ _ _ h => hp _ _ _ _ h) (.inl ⟨by kernel_rfl, fun V hV => ?_⟩) hS ?_
  · have s0 := hV
    try obtain ⟨s1, s2⟩ := s0
    go_split_ands
    go_simp
    all_goals (first | assumption | skip)
  simp only [Act.put, List.setIfInBounds_toArray, List.set_cons_zero, List.set_cons_succ]
  refine wpAnyH_take (i := 5) (oi := { dst := some 53, op := Op.move (Operand.tmp 4), type := 3, pos := "top01.go:160", after := #[], guard := none }) (v := .int .i64 (i : Int)) rfl (by kernel_rfl) (by kernel_rfl) (by kernel_rfl) (fun _ _ _ h => hp _ _ _ _ h) (.inl ⟨by kernel_rfl, fun V hV => ?_⟩) hS ?_
  · have s0 := hV
    try obtain ⟨s1, s2⟩ := s0
    go_split_ands
    go_simp
    all_goals (first | assumption | skip)
  simp only [Act.put, List.setIfInBounds_toArray, List.set_cons_zero, List.set_cons_succ]
  refine wpAnyH_take (i := 6) (oi := { dst := some 54, op := Op.indexAddr 32 (Operand.tmp 52) (Operand.tmp 53), type := 0, pos := "top01.go:160", after := #[{ on := 4, ground := Ground.data }, { on := 5, ground := Ground.data }], guard := none }) (v := .pointer (some ⟨gB, i, none⟩)) rfl (by kernel_rfl) (by kernel_rfl) (by kernel_rfl) (fun _ _ _ h => hp _ _ _ _ h) (.inl ⟨by kernel_rfl, fun V hV => ?_⟩) hS ?_
  · have s0 := hV
    try obtain ⟨s1, s2⟩ := s0
    go_split_ands
    go_simp
    all_goals (first | assumption | skip)
  simp only [Act.put, List.setIfInBounds_toArray, List.set_cons_zero, List.set_cons_succ]
  refine wpAnyH_take (i := 7) (oi := { dst := some 55, op := Op.load 36 (Operand.tmp 54), type := 36, pos := "top01.go:160", after := #[{ on := 6, ground := Ground.data }], guard := none }) (v := .slice none 0 0) rfl (by kernel_rfl) (by kernel_rfl) (by kernel_rfl) (fun _ _ _ h => hp _ _ _ _ h) (.inl ⟨by kernel_rfl, fun V hV => ?_⟩) hS ?_
  · have s0 := hV
    try obtain ⟨s1, s2⟩ := s0
    go_split_ands
    go_simp
    all_goals (first | assumption | skip)
  simp only [Act.put, List.setIfInBounds_toArray, List.set_cons_zero, List.set_cons_succ]
  refine wpAnyH_take (i := 8) (oi := { dst := some 56, op := Op.move (Operand.tmp 0), type := 30, pos := "top01.go:160", after := #[], guard := none }) (v := .pointer (some ⟨x, 0, none⟩)) rfl (by kernel_rfl) (by kernel_rfl) (by kernel_rfl) (fun _ _ _ h => hp _ _ _ _ h) (.inl ⟨by kernel_rfl, fun V hV => ?_⟩) hS ?_
  · have s0 := hV
    try obtain ⟨s1, s2⟩ := s0
    go_split_ands
    go_simp
    all_goals (first | assumption | skip)
  simp only [Act.put, List.setIfInBounds_toArray, List.set_cons_zero, List.set_cons_succ]
  refine wpAnyH_take (i := 9) (oi := { dst := some 57, op := Op.nilCheck (Operand.tmp 56), type := 0, pos := "top01.go:160", after := #[{ on := 8, ground := Ground.data }], guard := none }) (v := .pointer (some ⟨x, 0, none⟩)) rfl (by kernel_rfl) (by kernel_rfl) (by kernel_rfl) (fun _ _ _ h => hp _ _ _ _ h) (.inl ⟨by kernel_rfl, fun V hV => ?_⟩) hS ?_
  · have s0 := hV
    try obtain ⟨s1, s2⟩ := s0
    go_split_ands
    go_simp
    all_goals (first | assumption | skip)
  simp only [Act.put, List.setIfInBounds_toArray, List.set_cons_zero, List.set_cons_succ]
  refine wpAnyH_take (i := 10) (oi := { dst := some 58, op := Op.fieldAddr 35 (Operand.tmp 57) 2, type := 0, pos := "top01.go:160", after := #[{ on := 9, ground := Ground.data }], guard := none }) (v := .pointer (some ⟨x, 2, none⟩)) rfl (by kernel_rfl) (by kernel_rfl) (by kernel_rfl) (fun _ _ _ h => hp _ _ _ _ h) (.inl ⟨by kernel_rfl, fun V hV => ?_⟩) hS ?_
  · have s0 := hV
    try obtain ⟨s1, s2⟩ := s0
    go_split_ands
    go_simp
    all_goals (first | assumption | skip)
  simp only [Act.put, List.setIfInBounds_toArray, List.set_cons_zero, List.set_cons_succ]
  refine wpAnyH_take (i := 11) (oi := { dst := some 59, op := Op.load 33 (Operand.tmp 58), type := 33, pos := "top01.go:160", after := #[{ on := 10, ground := Ground.data }], guard := none }) (v := .slice (some ⟨gS, 0, none⟩) nf cS) rfl (by kernel_rfl) (by kernel_rfl) (by kernel_rfl) (fun _ _ _ h => hp _ _ _ _ h) (.inl ⟨by kernel_rfl, fun V hV => ?_⟩) hS ?_
  · have s0 := hV
    try obtain ⟨s1, s2⟩ := s0
    go_split_ands
    go_simp
    all_goals (first | assumption | skip)
  simp only [Act.put, List.setIfInBounds_toArray, List.set_cons_zero, List.set_cons_succ]
  refine wpAnyH_take (i := 12) (oi := { dst := some 60, op := Op.move (Operand.tmp 4), type := 3, pos := "top01.go:160", after := #[], guard := none }) (v := .int .i64 (i : Int)) rfl (by kernel_rfl) (by kernel_rfl) (by kernel_rfl) (fun _ _ _ h => hp _ _ _ _ h) (.inl ⟨by kernel_rfl, fun V hV => ?_⟩) hS ?_
  · have s0 := hV
    try obtain ⟨s1, s2⟩ := s0
    go_split_ands
    go_simp
    all_goals (first | assumption | skip)
  simp only [Act.put, List.setIfInBounds_toArray, List.set_cons_zero, List.set_cons_succ]
  refine wpAnyH_take (i := 13) (oi := { dst := some 61, op := Op.indexAddr 33 (Operand.tmp 59) (Operand.tmp 60), type := 0, pos := "top01.go:160", after := #[{ on := 11, ground := Ground.data }, { on := 12, ground := Ground.data }], guard := none }) (v := .pointer (some ⟨gS, i, none⟩)) rfl (by kernel_rfl) (by kernel_rfl) (by kernel_rfl) (fun _ _ _ h => hp _ _ _ _ h) (.inl ⟨by kernel_rfl, fun V hV => ?_⟩) hS ?_
  · have s0 := hV
    try obtain ⟨s1, s2⟩ := s0
    go_split_ands
    go_simp
    all_goals (first | assumption | skip)
  simp only [Act.put, List.setIfInBounds_toArray, List.set_cons_zero, List.set_cons_succ]
  refine wpAnyH_take (i := 14) (oi := { dst := some 62, op := Op.load 3 (Operand.tmp 61), type := 3, pos := "top01.go:160", after := #[{ on := 13, ground := Ground.data }], guard := none }) (v := .int .i64 0) rfl (by kernel_rfl) (by kernel_rfl) (by kernel_rfl) (fun _ _ _ h => hp _ _ _ _ h) (.inl ⟨by kernel_rfl, fun V hV => ?_⟩) hS ?_
  · have s0 := hV
    try obtain ⟨s1, s2⟩ := s0
    go_split_ands
    go_simp
    all_goals (first | assumption | skip)
  simp only [Act.put, List.setIfInBounds_toArray, List.set_cons_zero, List.set_cons_succ]
  refine wpAnyH_take (i := 15) (oi := { dst := some 63, op := Op.slice 36 (Operand.tmp 55) none (some (Operand.tmp 62)) none, type := 36, pos := "top01.go:160", after := #[{ on := 7, ground := Ground.data }, { on := 14, ground := Ground.data }], guard := none }) (v := .slice none 0 0) rfl (by kernel_rfl) (by kernel_rfl) (by kernel_rfl) (fun _ _ _ h => hp _ _ _ _ h) (.inl ⟨by kernel_rfl, fun V hV => ?_⟩) hS ?_
  · have s0 := hV
    try obtain ⟨s1, s2⟩ := s0
    go_split_ands
    go_simp
    all_goals (first | assumption | skip)
  simp only [Act.put, List.setIfInBounds_toArray, List.set_cons_zero, List.set_cons_succ]
  refine wpAnyH_all (rs := [16]) (by kernel_rfl) (by simp) ?_
  intro i hiX
  obtain rfl : i = 16 := by simpa using hiX
  refine appB_opD (j := 16) (o := { dst := some 64, op := Op.call { callee := Callee.builtin Builtin.append, args := #[Operand.tmp 48, Operand.tmp 63], argTypes := #[36, 36] }, type := 36, pos := "top01.go:160", after := #[{ on := 0, ground := Ground.data }, { on := 15, ground := Ground.data }], guard := none }) rfl rfl (.tmp 48) (.tmp 63) rfl (.slice none 0 0) 0 [] (by simp [Act.eval]) (w := W.drew) (World.ownsRow_nil _ _ _ _) none 0 0 zs (by simp [Act.eval]) hl hzl (by simp) (by omega) ?_
  intro v' w' r1 r2 r3
  rw [Nat.zero_add] at r1
  have hS2 := hcv w' r2
  refine ⟨hS2, ?_⟩
  have hfin := h v' w' (by simpa using r1) r2 (r3.elim (fun e => .inl e) (fun e => .inr ⟨_, e, by simp⟩))
  obtain ⟨a1, n1, rfl⟩ := d_shape r1
  try simp only [Act.put, List.setIfInBounds_toArray, List.set_cons_zero, List.set_cons_succ]
  refine wpAnyH_take (i := 17) (oi := { dst := some 5, op := Op.assign (Operand.tmp 64), type := 36, pos := "top01.go:160", after := #[{ on := 16, ground := Ground.data }, { on := 16, ground := Ground.chain }, { on := 0, ground := Ground.phase }, { on := 1, ground := Ground.phase }, { on := 2, ground := Ground.phase }, { on := 3, ground := Ground.phase }, { on := 4, ground := Ground.phase }, { on := 5, ground := Ground.phase }, { on := 6, ground := Ground.phase }, { on := 7, ground := Ground.phase }, { on := 8, ground := Ground.phase }, { on := 9, ground := Ground.phase }, { on := 10, ground := Ground.phase }, { on := 11, ground := Ground.phase }, { on := 12, ground := Ground.phase }, { on := 13, ground := Ground.phase }, { on := 14, ground := Ground.phase }, { on := 15, ground := Ground.phase }, { on := 16, ground := Ground.phase }], guard := none }) (v := .slice a1 0 n1) rfl (by kernel_rfl) (by kernel_rfl) (by kernel_rfl) (fun _ _ _ h => hp _ _ _ _ h) (.inl ⟨by kernel_rfl, fun V hV => ?_⟩) hS2 ?_
  · have s0 := hV
    try obtain ⟨s1, s2⟩ := s0
    go_split_ands
    go_simp
    all_goals (first | assumption | skip)
  simp only [Act.put, List.setIfInBounds_toArray, List.set_cons_zero, List.set_cons_succ]
  exact wpAnyH_done (Q := calmD Q) (by kernel_rfl) hfin _

end
def Cp (w : World) (x n : Nat) (F : Nat → Prop) (D : Dk) (keep : Int) (v : Value) (wr : World) : Prop := ∃ i : Nat, v = .int .i64 i ∧ i ≤ n ∧ Pm wr x (up F w) (D.fs' (crF D.fs keep i)) ∧ Kd F w wr

set_option maxHeartbeats 8000000 in
set_option maxRecDepth 100000 in
theorem pCrash_any (w : World) (x : Nat) (F : Nat → Prop) (D : Dk) (keep : Int) (B : Nat) (hd : Pm w x F D) (hk : D.Ok B) (hB : B ≤ 1099511627776) : Calls Tryd.prog 16 #[.pointer (some ⟨x, 0, none⟩), .int .i64 keep] w fun e w' => (∃ v, e = .returned v) ∧ Hid (Pm w' x (up F w) (crD D keep) ∧ Kd F w w') := by
  have HD : Hid (Pm w x F D) := hd
  obtain ⟨n, hn⟩ : ∃ n, D.fs.length = n := ⟨_, rfl⟩
  have hnb : n ≤ 1099511627776 := by have := hk.len; omega
  have HN : Hid (D.fs.length = n) := hn
  have HK : Hid (D.Ok B) := hk
  obtain ⟨M, hM⟩ : ∃ M, (if keep < 0 then 0 else keep) = M := ⟨_, rfl⟩
  have HM : Hid ((if keep < 0 then 0 else keep) = M ∧ nn0 keep = M ∧ 0 ≤ M) := ⟨hM, hM, by rw [← hM]; split <;> omega⟩
  have HLn : Hid (∀ i, (crF D.fs keep i).length = n) := fun i => by
    unfold crF
    rw [List.length_append, List.length_map, List.length_take, List.length_drop, hn]; omega
  clear hd hn hk hM
  go_enter Tryd.func16, Tryd.ntmps16
  go_wp2
  go_loopw [4] (fun v wr => Cp w x n F D keep v wr) (fun v _ => n - (intOf v).toNat)
  case atStart =>
    have e : crF D.fs keep 0 = D.fs := by simp [crF]
    exact ⟨0, rfl, by omega, by rw [e]; exact HD.out.mono (fun k h _ => .inl h), Kd.refl _ _⟩
  case round =>
    obtain ⟨i, rfl, hi, hDr, hKr⟩ := hrel
    have HDr : Hid (Pm wr x (up F w) (D.fs' (crF D.fs keep i)) ∧ Kd F w wr) := ⟨hDr, hKr⟩
    obtain ⟨vn, vb, vs, L, hc⟩ := hDr
    have hll : L.length = n := by
      have h1 := hc.len
      rw [← h1]
      exact HLn.out i
    obtain ⟨an, cN, hvn⟩ := d_shape hc.rn
    rw [hll] at hvn
    subst hvn
    have c0 : wr.cell? ⟨x, 0, none⟩ = some (.slice an n cN) := hc.c 0
    by_cases hin : i = n
    · have hin2 := hin.symm
      clear hin
      subst hin2
      have hz : ¬ (n : Int) < (n : Int) := by omega
      have k2 : wr.cell? ⟨x, 5, none⟩ = some (.bool D.arm) := hc.c 5
      have k5 : wr.cell? ⟨x, 7, none⟩ = some (.bool D.dw) := hc.c 7
      have z2 := hc.z 5
      have z5 := hc.z 7
      have HR : Hid (∀ V : World, V.heap = ((wr.setCell ⟨x, 5, none⟩ (.bool false)).setCell ⟨x, 7, none⟩ (.bool false)).heap → V.os = wr.os → V.tape = wr.tape → V.output = wr.output → Pm V x (up F w) (crD D keep) ∧ Kd F w V) := fun V hV h1 h2 h3 => by
        have e1 : (wr.setCell ⟨x, 5, none⟩ (.bool false)).heap[x]? = _ := heap_setCell_same wr x 5 _ _ _ hc.box
        have e2 : ((wr.setCell ⟨x, 5, none⟩ (.bool false)).setCell ⟨x, 7, none⟩ (.bool false)).heap[x]? = _ := heap_setCell_same _ x 7 _ _ _ e1
        have ho : ∀ k, k ≠ x → V.heap[k]? = wr.heap[k]? := fun k hk => by
          rw [hV]
          exact (heap_setCell_other _ _ _ _ hk).trans (heap_setCell_other _ _ _ _ hk)
        have hfs : (crD D keep).fs = (D.fs' (crF D.fs keep n)).fs := by
          show D.fs.map (cr1 keep) = crF D.fs keep n
          exact (crF_all _ _ (by have := HN.out; omega)).symm
        refine ⟨⟨_, vb, vs, L, hc.boxed hfs ?_ ho⟩, HDr.out.2.trans ⟨h1, h2, h3, by rw [hV]; simp [World.setCell], fun k hk hn => ho k (fun e => ?_)⟩⟩
        · rw [hV, e2]
          unfold crD
          rfl
        · have hF : F x := by obtain ⟨_, _, _, _, h9⟩ := HD.out; exact h9.fx
          exact hn (e ▸ hF)
      clear hc
      go_wp2
      refine bodyPost_end (v := .tuple #[]) (by simp [results, Tryd.results16, go_sem]) rfl ?_
      exact ⟨⟨_, rfl⟩, HR.out _ rfl rfl rfl rfl⟩
    · have hz : (i : Int) < (n : Int) := by omega
      have hi0 : (0 : Int) ≤ (i : Int) := by omega
      have hwi : IntKind.i64.wrap ((i : Int) + 1) = (i : Int) + 1 := by rw [IntKind.wrap_i64]; omega
      obtain ⟨f, hf⟩ : ∃ f, D.fs[i]? = some f := ⟨_, List.getElem?_eq_getElem (by rw [HN.out]; omega)⟩
      obtain ⟨hf1, hf2⟩ := crF_step (keep := keep) hf
      have hok := HK.out.fs f (List.mem_of_getElem? hf)
      have hfl : f.bs.length ≤ 1099511627776 := by have := usd_get hf; have := HK.out.used; omega
      obtain ⟨p, hp⟩ : ∃ p, L[i]? = some p := ⟨_, List.getElem?_eq_getElem (by omega)⟩
      have hpf : p.1 = f := by
        have h1 := hc.file hp
        have h2 : (D.fs' (crF D.fs keep i)).fs[i]? = some f := hf1
        rw [h2] at h1
        exact (Option.some.inj h1).symm
      obtain ⟨gB, cB, hvb, _, kB, zB⟩ := row_cell hc.rb (i := i) (u := p.2) (by rw [List.getElem?_map, hp]; rfl)
      obtain ⟨gS, cS, hvs, _, kS, zS⟩ := row_cell hc.rs (i := i) (u := .int .i64 p.1.sf) (by rw [List.getElem?_map, hp]; rfl)
      rw [hll] at hvb hvs
      subst hvb hvs
      have c1 : wr.cell? ⟨x, 1, none⟩ = some (.slice (some ⟨gB, 0, none⟩) n cB) := hc.c 1
      have c2 : wr.cell? ⟨x, 2, none⟩ = some (.slice (some ⟨gS, 0, none⟩) n cS) := hc.c 2
      have nS : x ≠ gS := fun e => d_box hc.rs hc.box (by decide) (by rw [e]; rfl)
      have nB : x ≠ gB := fun e => d_box hc.rb hc.box (by decide) (by rw [e]; rfl)
      have nBS : gB ≠ gS := fun e => d_apart hc.rb hc.rs (by decide) (g := gB) rfl (by rw [e]; rfl)
      have hfS : up F w gS := hc.fs gS rfl
      have hfB : up F w gB := hc.fb gB rfl
      obtain ⟨av, cv, hav⟩ := d_shape (hc.byt i p hp)
      obtain ⟨⟨nm, bs, sf⟩, pv⟩ := p
      simp only at hpf hav kB kS
      subst hpf
      subst hav
      simp only at hfl
      obtain ⟨q, hq⟩ : ∃ q, crQ ⟨nm, bs, sf⟩ M = q := ⟨_, rfl⟩
      have hq' : (if ((bs.length : Nat) : Int) - sf < M then ((bs.length : Nat) : Int) - sf else M) = q := hq
      have hlo : 0 ≤ sf := hok.lo
      have hhi : sf ≤ bs.length := hok.hi
      have hq2 : 0 ≤ q ∧ sf + q ≤ bs.length := by have := HM.out.2.2; rw [← hq']; split <;> omega
      have HCc : Hid (Pc wr x (up F w) (D.fs' (crF D.fs keep i)) (.slice an n cN) (.slice (some ⟨gB, 0, none⟩) n cB) (.slice (some ⟨gS, 0, none⟩) n cS) L ∧ L[i]? = some (⟨nm, bs, sf⟩, .slice av bs.length cv) ∧ up F w gB ∧ up F w gS) := ⟨hc, hp, hfB, hfS⟩
      have hw1 : IntKind.i64.wrap ((bs.length : Int) - sf) = (bs.length : Int) - sf := by rw [IntKind.wrap_i64]; omega
      have hw2 : IntKind.i64.wrap (sf + q) = sf + q := by rw [IntKind.wrap_i64]; omega
      obtain ⟨k, hkk⟩ : ∃ k : Nat, sf + q = (k : Int) := ⟨(sf + q).toNat, by omega⟩
      have hkl : k ≤ bs.length := by omega
      have HQ : Hid (cr1 keep ⟨nm, bs, sf⟩ = ⟨nm, bs.take k, (k : Int)⟩) := by
        show _ = _
        unfold cr1
        rw [HM.out.2.1, hq, hkk]
        simp
      have zS' := zS i
      clear hKr hf1 hok hq zB zS
      go_upto_region 3 with fail
      refine regPc3 _ x gB gS n cB cS i keep sf M q av bs.length cv wr hz HM.out.1 hq' hw1 hw2 kS zS' ⟨c2, c1, kB⟩ (fun y => ⟨set_cell c2 nS, set_cell c1 nS, set_cell kB nBS⟩) ?_
      rw [hkk]
      obtain ⟨V1, hV1⟩ : ∃ V, wr.drew.setCell ⟨gS, i, none⟩ (.int .i64 (k : Int)) = V := ⟨_, rfl⟩
      rw [hV1]
      have hc1 := (hc.same (w' := wr.drew) (fun _ _ _ => rfl)).saf hp (k : Int)
      rw [hV1] at hc1
      simp only at hc1
      have HK1 : Hid (Kd F w V1 ∧ wr.heap.size ≤ V1.heap.size) := by
        rw [← hV1]
        refine ⟨HDr.out.2.upTrans ((Kd.refl _ _).drew.trans (Kd.set hfS)), by simp [World.setCell]⟩
      have hp1 : (L.set i (((⟨nm, bs, (k : Int)⟩ : Fl), Value.slice av bs.length cv) : Fv))[i]? = some (⟨nm, bs, (k : Int)⟩, .slice av bs.length cv) := by
        rw [List.getElem?_set_self (List.getElem?_eq_some_iff.mp hp).1]
      obtain ⟨g3, c3, hv3, -, kS1, -⟩ := row_cell hc1.rs (i := i) (u := .int .i64 (k : Int)) (by rw [List.getElem?_map, hp1]; rfl)
      obtain ⟨rfl, -, -⟩ : gS = g3 ∧ _ ∧ _ := by simpa using hv3
      obtain ⟨g4, c4, hv4, -, kB1, zB1⟩ := row_cell hc1.rb (i := i) (u := .slice av bs.length cv) (by rw [List.getElem?_map, hp1]; rfl)
      obtain ⟨rfl, -, -⟩ : gB = g4 ∧ _ ∧ _ := by simpa using hv4
      have e1 : V1.cell? ⟨x, 1, none⟩ = some (.slice (some ⟨gB, 0, none⟩) n cB) := hc1.c 1
      have e2 : V1.cell? ⟨x, 2, none⟩ = some (.slice (some ⟨gS, 0, none⟩) n cS) := hc1.c 2
      have HC1 : Hid (Pc V1 x (up F w) ((D.fs' (crF D.fs keep i)).fs' ((D.fs' (crF D.fs keep i)).fs.set i ⟨nm, bs, (k : Int)⟩)) (.slice an n cN) (.slice (some ⟨gB, 0, none⟩) n cB) (.slice (some ⟨gS, 0, none⟩) n cS) (L.set i (⟨nm, bs, (k : Int)⟩, .slice av bs.length cv))) := hc1
      have hby := hc1.byt i _ hp1
      simp only at hby
      obtain ⟨hz1, hz2, hz3, _⟩ := lies_own hby
      have HRes : Hid (∀ v' w', w'.ownsRow 0 5 1 v' k ((bs.take k).map (Value.int .u8)) → V1.drew.grownBy w' (Value.slice none 0 0).ownBlock → (v'.ownBlock = (Value.slice none 0 0).ownBlock ∨ ∃ g, v'.ownBlock = some g ∧ V1.heap.size ≤ g) → Cp w x n F D keep (.int .i64 ((i : Int) + 1)) (w'.setCell ⟨gB, i, none⟩ v')) := fun v' w' r1 r2 r3 => by
        have hg2 : V1.grownBy w' (Value.slice av bs.length cv).ownBlock := ⟨r2.os, r2.tape, r2.output, r2.size, fun k hk _ => r2.block k hk (by simp [Value.ownBlock])⟩
        have hl2 : (bs.take k).length = k := by rw [List.length_take]; omega
        have h1 := HC1.out.app hp1 (bs := bs.take k) (by rw [hl2]; exact r1) hg2 (fun g hg => by
          rcases r3 with e | ⟨g', e, hl⟩
          · rw [e] at hg; cases hg
          · have : g' = g := Option.some.inj (e.symm.trans hg)
            exact .inr (by omega))
        refine ⟨i + 1, by simp, by omega, ?_, ?_⟩
        · have e9 : ((D.fs' (crF D.fs keep i)).fs' ((D.fs' (crF D.fs keep i)).fs.set i ⟨nm, bs, (k : Int)⟩)).fs' (((D.fs' (crF D.fs keep i)).fs' ((D.fs' (crF D.fs keep i)).fs.set i ⟨nm, bs, (k : Int)⟩)).fs.set i ⟨nm, bs.take k, (k : Int)⟩) = D.fs' (crF D.fs keep (i + 1)) := by
            show D.fs' (((crF D.fs keep i).set i ⟨nm, bs, (k : Int)⟩).set i ⟨nm, bs.take k, (k : Int)⟩) = _
            rw [set_set', ← hf2, HQ.out]
          rw [e9] at h1
          have hs1 := HK1.out.2
          have hs2 := HDr.out.2.size
          exact ⟨_, _, _, _, h1.mono (fun k h _ => h.elim id (fun q => .inr (by omega)))⟩
        · refine HK1.out.1.upTrans (F := F) (a := w) ?_
          exact (Kd.grown hg2 (fun g hg => HCc.out.1.fy i _ g HCc.out.2.1 hg)).trans (Kd.set HCc.out.2.2.1)
      have hgc : ∀ {U : World} {b j : Nat} {u : Value}, V1.drew.grownBy U (Value.slice none 0 0).ownBlock → V1.cell? ⟨b, j, none⟩ = some u → U.cell? ⟨b, j, none⟩ = some u := fun hU hu => grown_cell (V := V1) hu ⟨hU.os, hU.tape, hU.output, hU.size, hU.block⟩ (by simp [Value.ownBlock])
      obtain ⟨cur, hcur⟩ := row_cur (x := x) (by have h9 := hc1.rb; rw [List.length_set, hll] at h9; exact h9)
      have hfz : ∀ {U : World}, V1.drew.grownBy U (Value.slice none 0 0).ownBlock → U.frozen? ⟨gB, i, none⟩ = false := fun {U} hU => frozen_of_row _ _ i _ _ ((hU.block gB (Array.getElem?_eq_some_iff.1 hcur).1 (by simp [Value.ownBlock])).trans (show V1.drew.heap[gB]? = _ from hcur))
      have HZ : Hid (Lies .u8 V1 av bs ∧ (av = none → bs.length = 0 ∧ cv = 0) ∧ bs.length ≤ cv ∧ k ≤ bs.length ∧ bs.length ≤ 1099511627776 ∧ V1.ownsRow 0 5 1 (.slice av bs.length cv) bs.length (bs.map (Value.int .u8))) := ⟨hz1, hz2, hz3, hkl, hfl, hby⟩
      have HY : Hid (V1.cell? ⟨x, 1, none⟩ = some (.slice (some ⟨gB, 0, none⟩) n cB) ∧ V1.cell? ⟨x, 2, none⟩ = some (.slice (some ⟨gS, 0, none⟩) n cS) ∧ V1.cell? ⟨gB, i, none⟩ = some (.slice av bs.length cv) ∧ V1.cell? ⟨gS, i, none⟩ = some (.int .i64 (k : Int))) := ⟨e1, e2, kB1, kS1⟩
      clear hll hc hp hc1 hp1 hV1 hv3 hv4 kB kS kB1 kS1 zB1 zS' hq' hf2 hw1 hw2 c0 c1 c2 e1 e2 hcur hz1 hz2 hz3 hkl hfl hby hkk hq2 hlo hhi hf
      go_upto_region 5 with fail
      obtain ⟨hz1, hz2, hz3, hkl, hfl, hby⟩ := HZ.out
      obtain ⟨y1, y2, y3, y4⟩ := HY.out
      clear HZ HY
      cases av with
      | none =>
        obtain ⟨hb0, hcv0⟩ := hz2 rfl
        have hk0 : k = 0 := by omega
        subst hk0
        subst hcv0
        rw [hb0] at y3
        refine regPc5N _ x gB gS n cB cS i (bs.take 0) V1 hz (by simp) (.inl (by simp)) (fun U hU => ⟨hgc hU y1, hgc hU y2, hgc hU y3, hgc hU y4⟩) ?_
        intro v' w' r1 r2 r3
        have HF : Hid _ := HRes.out v' w' r1 r2 r3
        have f1 : w'.cell? ⟨x, 1, none⟩ = some (.slice (some ⟨gB, 0, none⟩) n cB) := hgc r2 y1
        have f3 := hgc r2 y3
        have f4 : w'.frozen? ⟨gB, i, none⟩ = false := hfz r2
        obtain ⟨a9, c9, hv9⟩ := d_shape r1
        clear HRes y1 y2 y3 y4 hby r1 r2 r3 hz1 hz2 hz3 hkl hfl hgc hfz
        subst hv9
        go_wp2
        exact ⟨HF.out, by simp [intOf]; omega⟩
      | some ad =>
        obtain ⟨gv, hgv⟩ : ∃ gv, ad = ⟨gv, 0, none⟩ := by
          obtain ⟨_, ⟨e, _⟩ | ⟨g, cap, cur', e, _⟩⟩ := hby
          · cases e
          · cases e; exact ⟨g, rfl⟩
        subst hgv
        refine regPc5S _ x gB gS n cB cS i (bs.take k) gv bs.length cv k V1 (by omega) (by omega) (by omega) hz (by rw [List.length_take]; omega) (lies_take hz1 k) (fun U hU => ⟨hgc hU y1, hgc hU y2, hgc hU y3, hgc hU y4⟩) ?_
        intro v' w' r1 r2 r3
        have HF : Hid _ := HRes.out v' w' r1 r2 r3
        have f1 : w'.cell? ⟨x, 1, none⟩ = some (.slice (some ⟨gB, 0, none⟩) n cB) := hgc r2 y1
        have f3 := hgc r2 y3
        have f4 : w'.frozen? ⟨gB, i, none⟩ = false := hfz r2
        obtain ⟨a9, c9, hv9⟩ := d_shape r1
        clear HRes y1 y2 y3 y4 hby r1 r2 r3 hz1 hz2 hz3 hkl hfl hgc hfz
        subst hv9
        go_wp2
        exact ⟨HF.out, by simp [intOf]; omega⟩

end Go.Proofs.YticdedcgmofpjaaDoor.K
