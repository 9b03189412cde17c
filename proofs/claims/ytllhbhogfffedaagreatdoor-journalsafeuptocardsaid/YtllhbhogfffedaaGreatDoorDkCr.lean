import Derived.Test.YtllhbhogfffedaaGreatDoorDkMet
namespace Go.Proofs.YtllhbhogfffedaaGreatDoor.K
open Go.RowKit
attribute [local go_sem] Oper.semAt_some
set_option linter.unusedVariables false
set_option linter.unusedSimpArgs false

def regCr4Ops : Array Oper := #[⟨some 26, .move (.tmp 5), 111, "disk.go:70", #[], none⟩,
  ⟨some 27, .nilCheck (.tmp 26), 0, "disk.go:70", #[⟨0, .data⟩], none⟩,
  ⟨some 28, .fieldAddr 75 (.tmp 27) 2, 0, "disk.go:70", #[⟨1, .data⟩], none⟩,
  ⟨some 29, .load 3 (.tmp 28), 3, "disk.go:70", #[⟨2, .data⟩], none⟩,
  ⟨some 30, .move (.tmp 1), 3, "disk.go:70", #[], none⟩,
  ⟨some 31, .call { callee := Callee.builtin Builtin.max, args := #[.tmp 30, Operand.const (Value.int IntKind.i64 0)], argTypes := #[3, 3] }, 3, "disk.go:70", #[⟨4, .data⟩], none⟩,
  ⟨some 32, .move (.tmp 5), 111, "disk.go:70", #[], none⟩,
  ⟨some 33, .nilCheck (.tmp 32), 0, "disk.go:70", #[⟨6, .data⟩], none⟩,
  ⟨some 34, .fieldAddr 75 (.tmp 33) 1, 0, "disk.go:70", #[⟨7, .data⟩], none⟩,
  ⟨some 35, .load 35 (.tmp 34), 35, "disk.go:70", #[⟨8, .data⟩], none⟩,
  ⟨some 36, .call { callee := Callee.builtin Builtin.len, args := #[.tmp 35], argTypes := #[35] }, 3, "disk.go:70", #[⟨9, .data⟩], none⟩,
  ⟨some 37, .move (.tmp 5), 111, "disk.go:70", #[], none⟩,
  ⟨some 38, .nilCheck (.tmp 37), 0, "disk.go:70", #[⟨11, .data⟩], none⟩,
  ⟨some 39, .fieldAddr 75 (.tmp 38) 2, 0, "disk.go:70", #[⟨12, .data⟩], none⟩,
  ⟨some 40, .load 3 (.tmp 39), 3, "disk.go:70", #[⟨13, .data⟩], none⟩,
  ⟨some 41, .binOp BinOp.sub 3 (.tmp 36) (.tmp 40) 3, 3, "disk.go:70", #[⟨10, .data⟩, ⟨14, .data⟩], none⟩,
  ⟨some 42, .call { callee := Callee.builtin Builtin.min, args := #[.tmp 31, .tmp 41], argTypes := #[3, 3] }, 3, "disk.go:70", #[⟨5, .data⟩, ⟨15, .data⟩], none⟩,
  ⟨some 43, .binOp BinOp.add 3 (.tmp 29) (.tmp 42) 3, 3, "disk.go:70", #[⟨3, .data⟩, ⟨16, .data⟩], none⟩,
  ⟨some 44, .nilCheck (.tmp 26), 0, "disk.go:70", #[⟨0, .data⟩, ⟨0, .phase⟩, ⟨1, .phase⟩, ⟨2, .phase⟩, ⟨3, .phase⟩, ⟨4, .phase⟩, ⟨5, .phase⟩, ⟨6, .phase⟩, ⟨7, .phase⟩, ⟨8, .phase⟩, ⟨9, .phase⟩, ⟨10, .phase⟩, ⟨11, .phase⟩, ⟨12, .phase⟩, ⟨13, .phase⟩, ⟨14, .phase⟩, ⟨15, .phase⟩, ⟨16, .phase⟩, ⟨17, .phase⟩], none⟩,
  ⟨some 45, .fieldAddr 75 (.tmp 44) 2, 0, "disk.go:70", #[⟨18, .data⟩, ⟨0, .phase⟩, ⟨1, .phase⟩, ⟨2, .phase⟩, ⟨3, .phase⟩, ⟨4, .phase⟩, ⟨5, .phase⟩, ⟨6, .phase⟩, ⟨7, .phase⟩, ⟨8, .phase⟩, ⟨9, .phase⟩, ⟨10, .phase⟩, ⟨11, .phase⟩, ⟨12, .phase⟩, ⟨13, .phase⟩, ⟨14, .phase⟩, ⟨15, .phase⟩, ⟨16, .phase⟩, ⟨17, .phase⟩], none⟩,
  ⟨none, .store 3 (.tmp 45) (.tmp 43), 0, "disk.go:70", #[⟨19, .data⟩, ⟨17, .data⟩, ⟨0, .phase⟩, ⟨1, .phase⟩, ⟨2, .phase⟩, ⟨3, .phase⟩, ⟨4, .phase⟩, ⟨5, .phase⟩, ⟨6, .phase⟩, ⟨7, .phase⟩, ⟨8, .phase⟩, ⟨9, .phase⟩, ⟨10, .phase⟩, ⟨11, .phase⟩, ⟨12, .phase⟩, ⟨13, .phase⟩, ⟨14, .phase⟩, ⟨15, .phase⟩, ⟨16, .phase⟩, ⟨17, .phase⟩], none⟩]
set_option maxRecDepth 100000 in
set_option maxHeartbeats 4000000 in
theorem regCr4 (Q : Exit → Act → World → Prop) (gF i : Nat) (keep sf M q : Int) (av : Option Addr) (nv cv : Nat) {t0 t2 t3 t4 t6 t7 t8 t9 t10 t11 t12 t13 t14 t15 t16 t17 t18 t19 t20 t21 t22 t23 t24 t25 t26 t27 t28 t29 t30 t31 t32 t33 t34 t35 t36 t37 t38 t39 t40 t41 t42 t43 t44 t45 t46 t47 t48 t49 t50 t51 t52 t53 t54 t55 t56 t57 t58 t59 t60 t61 t62 t63 t64 t65 t66 t67 t68 t69 t70 t71 : Value} (W : World)
    (hM : (if keep < 0 then 0 else keep) = M) (hq : (if (nv : Int) - sf < M then (nv : Int) - sf else M) = q) (hw1 : IntKind.i64.wrap ((nv : Int) - sf) = (nv : Int) - sf) (hw2 : IntKind.i64.wrap (sf + q) = sf + q) (hb : W.drew.cell? ⟨gF, i * 3 + 2, none⟩ = some (.int .i64 sf)) (hz : W.drew.frozen? ⟨gF, i * 3 + 2, none⟩ = false) (hS : W.drew.cell? ⟨gF, i * 3 + 1, none⟩ = some (.slice av nv cv)) (hcx : ∀ y, (W.drew.setCell ⟨gF, i * 3 + 2, none⟩ y).cell? ⟨gF, i * 3 + 1, none⟩ = some (.slice av nv cv))
    (h : Q .normal { tmps := (t0 :: .int .i64 keep :: t2 :: t3 :: t4 :: .pointer (some ⟨gF, i * 3, none⟩) :: t6 :: t7 :: t8 :: t9 :: t10 :: t11 :: t12 :: t13 :: t14 :: t15 :: t16 :: t17 :: t18 :: t19 :: t20 :: t21 :: t22 :: t23 :: t24 :: t25 :: .pointer (some ⟨gF, i * 3, none⟩) :: .pointer (some ⟨gF, i * 3, none⟩) :: .pointer (some ⟨gF, i * 3 + 2, none⟩) :: .int .i64 sf :: .int .i64 keep :: .int .i64 M :: .pointer (some ⟨gF, i * 3, none⟩) :: .pointer (some ⟨gF, i * 3, none⟩) :: .pointer (some ⟨gF, i * 3 + 1, none⟩) :: .slice av nv cv :: .int .i64 ((nv : Nat) : Int) :: .pointer (some ⟨gF, i * 3, none⟩) :: .pointer (some ⟨gF, i * 3, none⟩) :: .pointer (some ⟨gF, i * 3 + 2, none⟩) :: .int .i64 sf :: .int .i64 ((nv : Int) - sf) :: .int .i64 q :: .int .i64 (sf + q) :: .pointer (some ⟨gF, i * 3, none⟩) :: .pointer (some ⟨gF, i * 3 + 2, none⟩) :: t46 :: t47 :: t48 :: t49 :: t50 :: t51 :: t52 :: t53 :: t54 :: t55 :: t56 :: t57 :: t58 :: t59 :: t60 :: t61 :: t62 :: t63 :: t64 :: t65 :: t66 :: t67 :: t68 :: t69 :: t70 :: t71 :: []).toArray, defers := [] } (W.drew.setCell ⟨gF, i * 3 + 2, none⟩ (.int .i64 (sf + q)))) :
    (Code.region 4 regCr4Ops true).wp Tryz.prog Q { tmps := (t0 :: .int .i64 keep :: t2 :: t3 :: t4 :: .pointer (some ⟨gF, i * 3, none⟩) :: t6 :: t7 :: t8 :: t9 :: t10 :: t11 :: t12 :: t13 :: t14 :: t15 :: t16 :: t17 :: t18 :: t19 :: t20 :: t21 :: t22 :: t23 :: t24 :: t25 :: t26 :: t27 :: t28 :: t29 :: t30 :: t31 :: t32 :: t33 :: t34 :: t35 :: t36 :: t37 :: t38 :: t39 :: t40 :: t41 :: t42 :: t43 :: t44 :: t45 :: t46 :: t47 :: t48 :: t49 :: t50 :: t51 :: t52 :: t53 :: t54 :: t55 :: t56 :: t57 :: t58 :: t59 :: t60 :: t61 :: t62 :: t63 :: t64 :: t65 :: t66 :: t67 :: t68 :: t69 :: t70 :: t71 :: []).toArray, defers := [] } W := by
  refine Code.wp_mono (fun _ _ _ h => calmD_le h) ?_
  have hp : ∀ c a a' w, calmD Q (.panic c) a w → calmD Q (.panic c) a' w := fun _ _ _ _ h => h
  refine wp_region_held (S := fun V => V.cell? ⟨gF, i * 3 + 1, none⟩ = some (.slice av nv cv)) (by kernel_rfl) ?_
  change wpAnyH _ _ _ _ _ _ _ _ W.drew
  refine wpAnyH_take (i := 0) (oi := ⟨some 26, .move (.tmp 5), 111, "disk.go:70", #[], none⟩) (v := .pointer (some ⟨gF, i * 3, none⟩)) rfl (by kernel_rfl) (by kernel_rfl) (by kernel_rfl) (fun _ _ _ h => hp _ _ _ _ h) (.inl ⟨by kernel_rfl, fun V hV => ?_⟩) hS ?_
  · have s0 := hV
    try obtain ⟨s1, s2⟩ := s0
    go_split_ands
    go_simp
    all_goals (first | assumption | skip)
  simp only [Act.put, List.setIfInBounds_toArray, List.set_cons_zero, List.set_cons_succ]
  refine wpAnyH_take (i := 1) (oi := ⟨some 27, .nilCheck (.tmp 26), 0, "disk.go:70", #[⟨0, .data⟩], none⟩) (v := .pointer (some ⟨gF, i * 3, none⟩)) rfl (by kernel_rfl) (by kernel_rfl) (by kernel_rfl) (fun _ _ _ h => hp _ _ _ _ h) (.inl ⟨by kernel_rfl, fun V hV => ?_⟩) hS ?_
  · have s0 := hV
    try obtain ⟨s1, s2⟩ := s0
    go_split_ands
    go_simp
    all_goals (first | assumption | skip)
  simp only [Act.put, List.setIfInBounds_toArray, List.set_cons_zero, List.set_cons_succ]
  refine wpAnyH_take (i := 2) (oi := ⟨some 28, .fieldAddr 75 (.tmp 27) 2, 0, "disk.go:70", #[⟨1, .data⟩], none⟩) (v := .pointer (some ⟨gF, i * 3 + 2, none⟩)) rfl (by kernel_rfl) (by kernel_rfl) (by kernel_rfl) (fun _ _ _ h => hp _ _ _ _ h) (.inl ⟨by kernel_rfl, fun V hV => ?_⟩) hS ?_
  · have s0 := hV
    try obtain ⟨s1, s2⟩ := s0
    go_split_ands
    go_simp
    all_goals (first | assumption | skip)
  simp only [Act.put, List.setIfInBounds_toArray, List.set_cons_zero, List.set_cons_succ]
  refine wpAnyH_take (i := 4) (oi := ⟨some 30, .move (.tmp 1), 3, "disk.go:70", #[], none⟩) (v := .int .i64 keep) rfl (by kernel_rfl) (by kernel_rfl) (by kernel_rfl) (fun _ _ _ h => hp _ _ _ _ h) (.inl ⟨by kernel_rfl, fun V hV => ?_⟩) hS ?_
  · have s0 := hV
    try obtain ⟨s1, s2⟩ := s0
    go_split_ands
    go_simp
    all_goals (first | assumption | skip)
  simp only [Act.put, List.setIfInBounds_toArray, List.set_cons_zero, List.set_cons_succ]
  refine wpAnyH_take (i := 5) (oi := ⟨some 31, .call { callee := Callee.builtin Builtin.max, args := #[.tmp 30, Operand.const (Value.int IntKind.i64 0)], argTypes := #[3, 3] }, 3, "disk.go:70", #[⟨4, .data⟩], none⟩) (v := .int .i64 M) rfl (by kernel_rfl) (by kernel_rfl) (by kernel_rfl) (fun _ _ _ h => hp _ _ _ _ h) (.inl ⟨by kernel_rfl, fun V hV => ?_⟩) hS ?_
  · have s0 := hV
    try obtain ⟨s1, s2⟩ := s0
    go_split_ands
    go_simp
    all_goals (first | assumption | skip)
  simp only [Act.put, List.setIfInBounds_toArray, List.set_cons_zero, List.set_cons_succ]
  refine wpAnyH_take (i := 6) (oi := ⟨some 32, .move (.tmp 5), 111, "disk.go:70", #[], none⟩) (v := .pointer (some ⟨gF, i * 3, none⟩)) rfl (by kernel_rfl) (by kernel_rfl) (by kernel_rfl) (fun _ _ _ h => hp _ _ _ _ h) (.inl ⟨by kernel_rfl, fun V hV => ?_⟩) hS ?_
  · have s0 := hV
    try obtain ⟨s1, s2⟩ := s0
    go_split_ands
    go_simp
    all_goals (first | assumption | skip)
  simp only [Act.put, List.setIfInBounds_toArray, List.set_cons_zero, List.set_cons_succ]
  refine wpAnyH_take (i := 7) (oi := ⟨some 33, .nilCheck (.tmp 32), 0, "disk.go:70", #[⟨6, .data⟩], none⟩) (v := .pointer (some ⟨gF, i * 3, none⟩)) rfl (by kernel_rfl) (by kernel_rfl) (by kernel_rfl) (fun _ _ _ h => hp _ _ _ _ h) (.inl ⟨by kernel_rfl, fun V hV => ?_⟩) hS ?_
  · have s0 := hV
    try obtain ⟨s1, s2⟩ := s0
    go_split_ands
    go_simp
    all_goals (first | assumption | skip)
  simp only [Act.put, List.setIfInBounds_toArray, List.set_cons_zero, List.set_cons_succ]
  refine wpAnyH_take (i := 8) (oi := ⟨some 34, .fieldAddr 75 (.tmp 33) 1, 0, "disk.go:70", #[⟨7, .data⟩], none⟩) (v := .pointer (some ⟨gF, i * 3 + 1, none⟩)) rfl (by kernel_rfl) (by kernel_rfl) (by kernel_rfl) (fun _ _ _ h => hp _ _ _ _ h) (.inl ⟨by kernel_rfl, fun V hV => ?_⟩) hS ?_
  · have s0 := hV
    try obtain ⟨s1, s2⟩ := s0
    go_split_ands
    go_simp
    all_goals (first | assumption | skip)
  simp only [Act.put, List.setIfInBounds_toArray, List.set_cons_zero, List.set_cons_succ]
  refine wpAnyH_take (i := 9) (oi := ⟨some 35, .load 35 (.tmp 34), 35, "disk.go:70", #[⟨8, .data⟩], none⟩) (v := .slice av nv cv) rfl (by kernel_rfl) (by kernel_rfl) (by kernel_rfl) (fun _ _ _ h => hp _ _ _ _ h) (.inl ⟨by kernel_rfl, fun V hV => ?_⟩) hS ?_
  · have s0 := hV
    try obtain ⟨s1, s2⟩ := s0
    go_split_ands
    go_simp
    all_goals (first | assumption | skip)
  simp only [Act.put, List.setIfInBounds_toArray, List.set_cons_zero, List.set_cons_succ]
  refine wpAnyH_take (i := 10) (oi := ⟨some 36, .call { callee := Callee.builtin Builtin.len, args := #[.tmp 35], argTypes := #[35] }, 3, "disk.go:70", #[⟨9, .data⟩], none⟩) (v := .int .i64 ((nv : Nat) : Int)) rfl (by kernel_rfl) (by kernel_rfl) (by kernel_rfl) (fun _ _ _ h => hp _ _ _ _ h) (.inl ⟨by kernel_rfl, fun V hV => ?_⟩) hS ?_
  · have s0 := hV
    try obtain ⟨s1, s2⟩ := s0
    go_split_ands
    go_simp
    all_goals (first | assumption | skip)
  simp only [Act.put, List.setIfInBounds_toArray, List.set_cons_zero, List.set_cons_succ]
  refine wpAnyH_take (i := 11) (oi := ⟨some 37, .move (.tmp 5), 111, "disk.go:70", #[], none⟩) (v := .pointer (some ⟨gF, i * 3, none⟩)) rfl (by kernel_rfl) (by kernel_rfl) (by kernel_rfl) (fun _ _ _ h => hp _ _ _ _ h) (.inl ⟨by kernel_rfl, fun V hV => ?_⟩) hS ?_
  · have s0 := hV
    try obtain ⟨s1, s2⟩ := s0
    go_split_ands
    go_simp
    all_goals (first | assumption | skip)
  simp only [Act.put, List.setIfInBounds_toArray, List.set_cons_zero, List.set_cons_succ]
  refine wpAnyH_take (i := 12) (oi := ⟨some 38, .nilCheck (.tmp 37), 0, "disk.go:70", #[⟨11, .data⟩], none⟩) (v := .pointer (some ⟨gF, i * 3, none⟩)) rfl (by kernel_rfl) (by kernel_rfl) (by kernel_rfl) (fun _ _ _ h => hp _ _ _ _ h) (.inl ⟨by kernel_rfl, fun V hV => ?_⟩) hS ?_
  · have s0 := hV
    try obtain ⟨s1, s2⟩ := s0
    go_split_ands
    go_simp
    all_goals (first | assumption | skip)
  simp only [Act.put, List.setIfInBounds_toArray, List.set_cons_zero, List.set_cons_succ]
  refine wpAnyH_take (i := 13) (oi := ⟨some 39, .fieldAddr 75 (.tmp 38) 2, 0, "disk.go:70", #[⟨12, .data⟩], none⟩) (v := .pointer (some ⟨gF, i * 3 + 2, none⟩)) rfl (by kernel_rfl) (by kernel_rfl) (by kernel_rfl) (fun _ _ _ h => hp _ _ _ _ h) (.inl ⟨by kernel_rfl, fun V hV => ?_⟩) hS ?_
  · have s0 := hV
    try obtain ⟨s1, s2⟩ := s0
    go_split_ands
    go_simp
    all_goals (first | assumption | skip)
  simp only [Act.put, List.setIfInBounds_toArray, List.set_cons_zero, List.set_cons_succ]
  refine wpAnyH_ready (rs := [3, 14]) (by kernel_rfl) (by simp) ?_
  refine (AllReadyH.cons (o := ⟨some 29, .load 3 (.tmp 28), 3, "disk.go:70", #[⟨2, .data⟩], none⟩) rfl (fun K hK => ?_) (AllReadyH.cons (o := ⟨some 40, .load 3 (.tmp 39), 3, "disk.go:70", #[⟨13, .data⟩], none⟩) rfl (fun K hK => ?_) AllReadyH.nil))
  · go_simp
    refine hK.out _ _ hS (fun _ => ?_)
    clear hK K
    try simp only [Act.put, List.setIfInBounds_toArray, List.set_cons_zero, List.set_cons_succ]
    refine wpAnyH_ready (rs := [14]) (by kernel_rfl) (by simp) ?_
    refine (AllReadyH.cons (o := ⟨some 40, .load 3 (.tmp 39), 3, "disk.go:70", #[⟨13, .data⟩], none⟩) rfl (fun K hK => ?_) AllReadyH.nil)
    go_simp
    refine hK.out _ _ hS (fun _ => ?_)
    clear hK K
    try simp only [Act.put, List.setIfInBounds_toArray, List.set_cons_zero, List.set_cons_succ]
    refine wpAnyH_take (i := 15) (oi := ⟨some 41, .binOp BinOp.sub 3 (.tmp 36) (.tmp 40) 3, 3, "disk.go:70", #[⟨10, .data⟩, ⟨14, .data⟩], none⟩) (v := .int .i64 ((nv : Int) - sf)) rfl (by kernel_rfl) (by kernel_rfl) (by kernel_rfl) (fun _ _ _ h => hp _ _ _ _ h) (.inl ⟨by kernel_rfl, fun V hV => ?_⟩) hS ?_
    · have s0 := hV
      try obtain ⟨s1, s2⟩ := s0
      go_split_ands
      go_simp
      all_goals (first | assumption | skip)
    simp only [Act.put, List.setIfInBounds_toArray, List.set_cons_zero, List.set_cons_succ]
    refine wpAnyH_take (i := 16) (oi := ⟨some 42, .call { callee := Callee.builtin Builtin.min, args := #[.tmp 31, .tmp 41], argTypes := #[3, 3] }, 3, "disk.go:70", #[⟨5, .data⟩, ⟨15, .data⟩], none⟩) (v := .int .i64 q) rfl (by kernel_rfl) (by kernel_rfl) (by kernel_rfl) (fun _ _ _ h => hp _ _ _ _ h) (.inl ⟨by kernel_rfl, fun V hV => ?_⟩) hS ?_
    · have s0 := hV
      try obtain ⟨s1, s2⟩ := s0
      go_split_ands
      go_simp
      all_goals (first | assumption | skip)
    simp only [Act.put, List.setIfInBounds_toArray, List.set_cons_zero, List.set_cons_succ]
    refine wpAnyH_take (i := 17) (oi := ⟨some 43, .binOp BinOp.add 3 (.tmp 29) (.tmp 42) 3, 3, "disk.go:70", #[⟨3, .data⟩, ⟨16, .data⟩], none⟩) (v := .int .i64 (sf + q)) rfl (by kernel_rfl) (by kernel_rfl) (by kernel_rfl) (fun _ _ _ h => hp _ _ _ _ h) (.inl ⟨by kernel_rfl, fun V hV => ?_⟩) hS ?_
    · have s0 := hV
      try obtain ⟨s1, s2⟩ := s0
      go_split_ands
      go_simp
      all_goals (first | assumption | skip)
    simp only [Act.put, List.setIfInBounds_toArray, List.set_cons_zero, List.set_cons_succ]
    refine wpAnyH_take (i := 18) (oi := ⟨some 44, .nilCheck (.tmp 26), 0, "disk.go:70", #[⟨0, .data⟩, ⟨0, .phase⟩, ⟨1, .phase⟩, ⟨2, .phase⟩, ⟨3, .phase⟩, ⟨4, .phase⟩, ⟨5, .phase⟩, ⟨6, .phase⟩, ⟨7, .phase⟩, ⟨8, .phase⟩, ⟨9, .phase⟩, ⟨10, .phase⟩, ⟨11, .phase⟩, ⟨12, .phase⟩, ⟨13, .phase⟩, ⟨14, .phase⟩, ⟨15, .phase⟩, ⟨16, .phase⟩, ⟨17, .phase⟩], none⟩) (v := .pointer (some ⟨gF, i * 3, none⟩)) rfl (by kernel_rfl) (by kernel_rfl) (by kernel_rfl) (fun _ _ _ h => hp _ _ _ _ h) (.inl ⟨by kernel_rfl, fun V hV => ?_⟩) hS ?_
    · have s0 := hV
      try obtain ⟨s1, s2⟩ := s0
      go_split_ands
      go_simp
      all_goals (first | assumption | skip)
    simp only [Act.put, List.setIfInBounds_toArray, List.set_cons_zero, List.set_cons_succ]
    refine wpAnyH_take (i := 19) (oi := ⟨some 45, .fieldAddr 75 (.tmp 44) 2, 0, "disk.go:70", #[⟨18, .data⟩, ⟨0, .phase⟩, ⟨1, .phase⟩, ⟨2, .phase⟩, ⟨3, .phase⟩, ⟨4, .phase⟩, ⟨5, .phase⟩, ⟨6, .phase⟩, ⟨7, .phase⟩, ⟨8, .phase⟩, ⟨9, .phase⟩, ⟨10, .phase⟩, ⟨11, .phase⟩, ⟨12, .phase⟩, ⟨13, .phase⟩, ⟨14, .phase⟩, ⟨15, .phase⟩, ⟨16, .phase⟩, ⟨17, .phase⟩], none⟩) (v := .pointer (some ⟨gF, i * 3 + 2, none⟩)) rfl (by kernel_rfl) (by kernel_rfl) (by kernel_rfl) (fun _ _ _ h => hp _ _ _ _ h) (.inl ⟨by kernel_rfl, fun V hV => ?_⟩) hS ?_
    · have s0 := hV
      try obtain ⟨s1, s2⟩ := s0
      go_split_ands
      go_simp
      all_goals (first | assumption | skip)
    simp only [Act.put, List.setIfInBounds_toArray, List.set_cons_zero, List.set_cons_succ]
    refine wpAnyH_ready (rs := [20]) (by kernel_rfl) (by simp) ?_
    refine (AllReadyH.cons (o := ⟨none, .store 3 (.tmp 45) (.tmp 43), 0, "disk.go:70", #[⟨19, .data⟩, ⟨17, .data⟩, ⟨0, .phase⟩, ⟨1, .phase⟩, ⟨2, .phase⟩, ⟨3, .phase⟩, ⟨4, .phase⟩, ⟨5, .phase⟩, ⟨6, .phase⟩, ⟨7, .phase⟩, ⟨8, .phase⟩, ⟨9, .phase⟩, ⟨10, .phase⟩, ⟨11, .phase⟩, ⟨12, .phase⟩, ⟨13, .phase⟩, ⟨14, .phase⟩, ⟨15, .phase⟩, ⟨16, .phase⟩, ⟨17, .phase⟩], none⟩) rfl (fun K hK => ?_) AllReadyH.nil)
    go_simp
    refine hK.out _ _ (hcx _) (fun _ => ?_)
    clear hK K
    try simp only [Act.put, List.setIfInBounds_toArray, List.set_cons_zero, List.set_cons_succ]
    exact wpAnyH_done (Q := calmD Q) (by kernel_rfl) h _
  · go_simp
    refine hK.out _ _ hS (fun _ => ?_)
    clear hK K
    try simp only [Act.put, List.setIfInBounds_toArray, List.set_cons_zero, List.set_cons_succ]
    refine wpAnyH_take (i := 15) (oi := ⟨some 41, .binOp BinOp.sub 3 (.tmp 36) (.tmp 40) 3, 3, "disk.go:70", #[⟨10, .data⟩, ⟨14, .data⟩], none⟩) (v := .int .i64 ((nv : Int) - sf)) rfl (by kernel_rfl) (by kernel_rfl) (by kernel_rfl) (fun _ _ _ h => hp _ _ _ _ h) (.inl ⟨by kernel_rfl, fun V hV => ?_⟩) hS ?_
    · have s0 := hV
      try obtain ⟨s1, s2⟩ := s0
      go_split_ands
      go_simp
      all_goals (first | assumption | skip)
    simp only [Act.put, List.setIfInBounds_toArray, List.set_cons_zero, List.set_cons_succ]
    refine wpAnyH_take (i := 16) (oi := ⟨some 42, .call { callee := Callee.builtin Builtin.min, args := #[.tmp 31, .tmp 41], argTypes := #[3, 3] }, 3, "disk.go:70", #[⟨5, .data⟩, ⟨15, .data⟩], none⟩) (v := .int .i64 q) rfl (by kernel_rfl) (by kernel_rfl) (by kernel_rfl) (fun _ _ _ h => hp _ _ _ _ h) (.inl ⟨by kernel_rfl, fun V hV => ?_⟩) hS ?_
    · have s0 := hV
      try obtain ⟨s1, s2⟩ := s0
      go_split_ands
      go_simp
      all_goals (first | assumption | skip)
    simp only [Act.put, List.setIfInBounds_toArray, List.set_cons_zero, List.set_cons_succ]
    refine wpAnyH_ready (rs := [3]) (by kernel_rfl) (by simp) ?_
    refine (AllReadyH.cons (o := ⟨some 29, .load 3 (.tmp 28), 3, "disk.go:70", #[⟨2, .data⟩], none⟩) rfl (fun K hK => ?_) AllReadyH.nil)
    go_simp
    refine hK.out _ _ hS (fun _ => ?_)
    clear hK K
    try simp only [Act.put, List.setIfInBounds_toArray, List.set_cons_zero, List.set_cons_succ]
    refine wpAnyH_take (i := 17) (oi := ⟨some 43, .binOp BinOp.add 3 (.tmp 29) (.tmp 42) 3, 3, "disk.go:70", #[⟨3, .data⟩, ⟨16, .data⟩], none⟩) (v := .int .i64 (sf + q)) rfl (by kernel_rfl) (by kernel_rfl) (by kernel_rfl) (fun _ _ _ h => hp _ _ _ _ h) (.inl ⟨by kernel_rfl, fun V hV => ?_⟩) hS ?_
    · have s0 := hV
      try obtain ⟨s1, s2⟩ := s0
      go_split_ands
      go_simp
      all_goals (first | assumption | skip)
    simp only [Act.put, List.setIfInBounds_toArray, List.set_cons_zero, List.set_cons_succ]
    refine wpAnyH_take (i := 18) (oi := ⟨some 44, .nilCheck (.tmp 26), 0, "disk.go:70", #[⟨0, .data⟩, ⟨0, .phase⟩, ⟨1, .phase⟩, ⟨2, .phase⟩, ⟨3, .phase⟩, ⟨4, .phase⟩, ⟨5, .phase⟩, ⟨6, .phase⟩, ⟨7, .phase⟩, ⟨8, .phase⟩, ⟨9, .phase⟩, ⟨10, .phase⟩, ⟨11, .phase⟩, ⟨12, .phase⟩, ⟨13, .phase⟩, ⟨14, .phase⟩, ⟨15, .phase⟩, ⟨16, .phase⟩, ⟨17, .phase⟩], none⟩) (v := .pointer (some ⟨gF, i * 3, none⟩)) rfl (by kernel_rfl) (by kernel_rfl) (by kernel_rfl) (fun _ _ _ h => hp _ _ _ _ h) (.inl ⟨by kernel_rfl, fun V hV => ?_⟩) hS ?_
    · have s0 := hV
      try obtain ⟨s1, s2⟩ := s0
      go_split_ands
      go_simp
      all_goals (first | assumption | skip)
    simp only [Act.put, List.setIfInBounds_toArray, List.set_cons_zero, List.set_cons_succ]
    refine wpAnyH_take (i := 19) (oi := ⟨some 45, .fieldAddr 75 (.tmp 44) 2, 0, "disk.go:70", #[⟨18, .data⟩, ⟨0, .phase⟩, ⟨1, .phase⟩, ⟨2, .phase⟩, ⟨3, .phase⟩, ⟨4, .phase⟩, ⟨5, .phase⟩, ⟨6, .phase⟩, ⟨7, .phase⟩, ⟨8, .phase⟩, ⟨9, .phase⟩, ⟨10, .phase⟩, ⟨11, .phase⟩, ⟨12, .phase⟩, ⟨13, .phase⟩, ⟨14, .phase⟩, ⟨15, .phase⟩, ⟨16, .phase⟩, ⟨17, .phase⟩], none⟩) (v := .pointer (some ⟨gF, i * 3 + 2, none⟩)) rfl (by kernel_rfl) (by kernel_rfl) (by kernel_rfl) (fun _ _ _ h => hp _ _ _ _ h) (.inl ⟨by kernel_rfl, fun V hV => ?_⟩) hS ?_
    · have s0 := hV
      try obtain ⟨s1, s2⟩ := s0
      go_split_ands
      go_simp
      all_goals (first | assumption | skip)
    simp only [Act.put, List.setIfInBounds_toArray, List.set_cons_zero, List.set_cons_succ]
    refine wpAnyH_ready (rs := [20]) (by kernel_rfl) (by simp) ?_
    refine (AllReadyH.cons (o := ⟨none, .store 3 (.tmp 45) (.tmp 43), 0, "disk.go:70", #[⟨19, .data⟩, ⟨17, .data⟩, ⟨0, .phase⟩, ⟨1, .phase⟩, ⟨2, .phase⟩, ⟨3, .phase⟩, ⟨4, .phase⟩, ⟨5, .phase⟩, ⟨6, .phase⟩, ⟨7, .phase⟩, ⟨8, .phase⟩, ⟨9, .phase⟩, ⟨10, .phase⟩, ⟨11, .phase⟩, ⟨12, .phase⟩, ⟨13, .phase⟩, ⟨14, .phase⟩, ⟨15, .phase⟩, ⟨16, .phase⟩, ⟨17, .phase⟩], none⟩) rfl (fun K hK => ?_) AllReadyH.nil)
    go_simp
    refine hK.out _ _ (hcx _) (fun _ => ?_)
    clear hK K
    try simp only [Act.put, List.setIfInBounds_toArray, List.set_cons_zero, List.set_cons_succ]
    exact wpAnyH_done (Q := calmD Q) (by kernel_rfl) h _

def regCr5SOps : Array Oper := #[⟨some 46, .move (.tmp 5), 111, "disk.go:71", #[], none⟩,
  ⟨some 47, .move (.tmp 5), 111, "disk.go:71", #[], none⟩,
  ⟨some 48, .nilCheck (.tmp 47), 0, "disk.go:71", #[⟨1, .data⟩], none⟩,
  ⟨some 49, .fieldAddr 75 (.tmp 48) 1, 0, "disk.go:71", #[⟨2, .data⟩], none⟩,
  ⟨some 50, .load 35 (.tmp 49), 35, "disk.go:71", #[⟨3, .data⟩], none⟩,
  ⟨some 51, .move (.tmp 5), 111, "disk.go:71", #[], none⟩,
  ⟨some 52, .nilCheck (.tmp 51), 0, "disk.go:71", #[⟨5, .data⟩], none⟩,
  ⟨some 53, .fieldAddr 75 (.tmp 52) 2, 0, "disk.go:71", #[⟨6, .data⟩], none⟩,
  ⟨some 54, .load 3 (.tmp 53), 3, "disk.go:71", #[⟨7, .data⟩], none⟩,
  ⟨some 55, .slice 35 (.tmp 50) none (some (.tmp 54)) none, 35, "disk.go:71", #[⟨4, .data⟩, ⟨8, .data⟩], none⟩,
  ⟨some 56, .call { callee := Callee.builtin Builtin.append, args := #[Operand.const (Value.slice none 0 0), .tmp 55], argTypes := #[35, 35] }, 35, "disk.go:71", #[⟨9, .data⟩], none⟩,
  ⟨some 57, .nilCheck (.tmp 46), 0, "disk.go:71", #[⟨0, .data⟩, ⟨0, .phase⟩, ⟨1, .phase⟩, ⟨2, .phase⟩, ⟨3, .phase⟩, ⟨4, .phase⟩, ⟨5, .phase⟩, ⟨6, .phase⟩, ⟨7, .phase⟩, ⟨8, .phase⟩, ⟨9, .phase⟩, ⟨10, .phase⟩], none⟩,
  ⟨some 58, .fieldAddr 75 (.tmp 57) 1, 0, "disk.go:71", #[⟨11, .data⟩, ⟨0, .phase⟩, ⟨1, .phase⟩, ⟨2, .phase⟩, ⟨3, .phase⟩, ⟨4, .phase⟩, ⟨5, .phase⟩, ⟨6, .phase⟩, ⟨7, .phase⟩, ⟨8, .phase⟩, ⟨9, .phase⟩, ⟨10, .phase⟩], none⟩,
  ⟨none, .store 35 (.tmp 58) (.tmp 56), 0, "disk.go:71", #[⟨12, .data⟩, ⟨10, .data⟩, ⟨10, .chain⟩, ⟨0, .phase⟩, ⟨1, .phase⟩, ⟨2, .phase⟩, ⟨3, .phase⟩, ⟨4, .phase⟩, ⟨5, .phase⟩, ⟨6, .phase⟩, ⟨7, .phase⟩, ⟨8, .phase⟩, ⟨9, .phase⟩, ⟨10, .phase⟩], none⟩]
set_option maxRecDepth 100000 in
set_option maxHeartbeats 4000000 in
theorem regCr5S (Q : Exit → Act → World → Prop) (gF i : Nat) (zs : List Int) (cur : Array Value) (gv nv cv k : Nat) {t0 t1 t2 t3 t4 t6 t7 t8 t9 t10 t11 t12 t13 t14 t15 t16 t17 t18 t19 t20 t21 t22 t23 t24 t25 t26 t27 t28 t29 t30 t31 t32 t33 t34 t35 t36 t37 t38 t39 t40 t41 t42 t43 t44 t45 t46 t47 t48 t49 t50 t51 t52 t53 t54 t55 t56 t57 t58 t59 t60 t61 t62 t63 t64 t65 t66 t67 t68 t69 t70 t71 : Value} (W : World)
    (hk0 : (0 : Int) ≤ (k : Int)) (hkc : (k : Int) ≤ (cv : Int)) (hkb : k ≤ 1099511627776) (hl : zs.length = k) (hzl : Lies .u8 W.drew (some ⟨gv, 0, none⟩) zs) (hB : W.drew.heap[gF]? = some (.cells cur 75 (0, 0))) (hb : W.drew.cell? ⟨gF, i * 3 + 1, none⟩ = some (.slice (some ⟨gv, 0, none⟩) nv cv)) (hcv : ∀ V, W.drew.grownBy V (Value.slice none 0 0).ownBlock → V.cell? ⟨gF, i * 3 + 2, none⟩ = some (.int .i64 ((k : Nat) : Int))) (hcw : ∀ V, W.drew.grownBy V (Value.slice none 0 0).ownBlock → ∀ y, (V.setCell ⟨gF, i * 3 + 1, none⟩ y).cell? ⟨gF, i * 3 + 2, none⟩ = some (.int .i64 ((k : Nat) : Int)))
    (h : ∀ v' w', w'.ownsRow 0 5 1 v' k (zs.map (Value.int .u8)) → W.drew.grownBy w' (Value.slice none 0 0).ownBlock → (v'.ownBlock = (Value.slice none 0 0).ownBlock ∨ ∃ g, v'.ownBlock = some g ∧ W.heap.size ≤ g) → Q .normal { tmps := (t0 :: t1 :: t2 :: t3 :: t4 :: .pointer (some ⟨gF, i * 3, none⟩) :: t6 :: t7 :: t8 :: t9 :: t10 :: t11 :: t12 :: t13 :: t14 :: t15 :: t16 :: t17 :: t18 :: t19 :: t20 :: t21 :: t22 :: t23 :: t24 :: t25 :: t26 :: t27 :: t28 :: t29 :: t30 :: t31 :: t32 :: t33 :: t34 :: t35 :: t36 :: t37 :: t38 :: t39 :: t40 :: t41 :: t42 :: t43 :: t44 :: t45 :: .pointer (some ⟨gF, i * 3, none⟩) :: .pointer (some ⟨gF, i * 3, none⟩) :: .pointer (some ⟨gF, i * 3, none⟩) :: .pointer (some ⟨gF, i * 3 + 1, none⟩) :: .slice (some ⟨gv, 0, none⟩) nv cv :: .pointer (some ⟨gF, i * 3, none⟩) :: .pointer (some ⟨gF, i * 3, none⟩) :: .pointer (some ⟨gF, i * 3 + 2, none⟩) :: .int .i64 ((k : Nat) : Int) :: .slice (some ⟨gv, 0, none⟩) k cv :: v' :: .pointer (some ⟨gF, i * 3, none⟩) :: .pointer (some ⟨gF, i * 3 + 1, none⟩) :: t59 :: t60 :: t61 :: t62 :: t63 :: t64 :: t65 :: t66 :: t67 :: t68 :: t69 :: t70 :: t71 :: []).toArray, defers := [] } (w'.setCell ⟨gF, i * 3 + 1, none⟩ v')) :
    (Code.region 5 regCr5SOps true).wp Tryz.prog Q { tmps := (t0 :: t1 :: t2 :: t3 :: t4 :: .pointer (some ⟨gF, i * 3, none⟩) :: t6 :: t7 :: t8 :: t9 :: t10 :: t11 :: t12 :: t13 :: t14 :: t15 :: t16 :: t17 :: t18 :: t19 :: t20 :: t21 :: t22 :: t23 :: t24 :: t25 :: t26 :: t27 :: t28 :: t29 :: t30 :: t31 :: t32 :: t33 :: t34 :: t35 :: t36 :: t37 :: t38 :: t39 :: t40 :: t41 :: t42 :: t43 :: t44 :: t45 :: t46 :: t47 :: t48 :: t49 :: t50 :: t51 :: t52 :: t53 :: t54 :: t55 :: t56 :: t57 :: t58 :: t59 :: t60 :: t61 :: t62 :: t63 :: t64 :: t65 :: t66 :: t67 :: t68 :: t69 :: t70 :: t71 :: []).toArray, defers := [] } W := by
  refine Code.wp_mono (fun _ _ _ h => calmD_le h) ?_
  have hp : ∀ c a a' w, calmD Q (.panic c) a w → calmD Q (.panic c) a' w := fun _ _ _ _ h => h
  refine wp_region_held (S := fun V => V.cell? ⟨gF, i * 3 + 2, none⟩ = some (.int .i64 ((k : Nat) : Int))) (by kernel_rfl) ?_
  change wpAnyH _ _ _ _ _ _ _ _ W.drew
  have hS := hcv W.drew ⟨rfl, rfl, rfl, Nat.le_refl _, fun _ _ _ => rfl⟩
  refine wpAnyH_take (i := 0) (oi := ⟨some 46, .move (.tmp 5), 111, "disk.go:71", #[], none⟩) (v := .pointer (some ⟨gF, i * 3, none⟩)) rfl (by kernel_rfl) (by kernel_rfl) (by kernel_rfl) (fun _ _ _ h => hp _ _ _ _ h) (.inl ⟨by kernel_rfl, fun V hV => ?_⟩) hS ?_
  · have s0 := hV
    try obtain ⟨s1, s2⟩ := s0
    go_split_ands
    go_simp
    all_goals (first | assumption | skip)
  simp only [Act.put, List.setIfInBounds_toArray, List.set_cons_zero, List.set_cons_succ]
  refine wpAnyH_take (i := 1) (oi := ⟨some 47, .move (.tmp 5), 111, "disk.go:71", #[], none⟩) (v := .pointer (some ⟨gF, i * 3, none⟩)) rfl (by kernel_rfl) (by kernel_rfl) (by kernel_rfl) (fun _ _ _ h => hp _ _ _ _ h) (.inl ⟨by kernel_rfl, fun V hV => ?_⟩) hS ?_
  · have s0 := hV
    try obtain ⟨s1, s2⟩ := s0
    go_split_ands
    go_simp
    all_goals (first | assumption | skip)
  simp only [Act.put, List.setIfInBounds_toArray, List.set_cons_zero, List.set_cons_succ]
  refine wpAnyH_take (i := 2) (oi := ⟨some 48, .nilCheck (.tmp 47), 0, "disk.go:71", #[⟨1, .data⟩], none⟩) (v := .pointer (some ⟨gF, i * 3, none⟩)) rfl (by kernel_rfl) (by kernel_rfl) (by kernel_rfl) (fun _ _ _ h => hp _ _ _ _ h) (.inl ⟨by kernel_rfl, fun V hV => ?_⟩) hS ?_
  · have s0 := hV
    try obtain ⟨s1, s2⟩ := s0
    go_split_ands
    go_simp
    all_goals (first | assumption | skip)
  simp only [Act.put, List.setIfInBounds_toArray, List.set_cons_zero, List.set_cons_succ]
  refine wpAnyH_take (i := 3) (oi := ⟨some 49, .fieldAddr 75 (.tmp 48) 1, 0, "disk.go:71", #[⟨2, .data⟩], none⟩) (v := .pointer (some ⟨gF, i * 3 + 1, none⟩)) rfl (by kernel_rfl) (by kernel_rfl) (by kernel_rfl) (fun _ _ _ h => hp _ _ _ _ h) (.inl ⟨by kernel_rfl, fun V hV => ?_⟩) hS ?_
  · have s0 := hV
    try obtain ⟨s1, s2⟩ := s0
    go_split_ands
    go_simp
    all_goals (first | assumption | skip)
  simp only [Act.put, List.setIfInBounds_toArray, List.set_cons_zero, List.set_cons_succ]
  refine wpAnyH_take (i := 5) (oi := ⟨some 51, .move (.tmp 5), 111, "disk.go:71", #[], none⟩) (v := .pointer (some ⟨gF, i * 3, none⟩)) rfl (by kernel_rfl) (by kernel_rfl) (by kernel_rfl) (fun _ _ _ h => hp _ _ _ _ h) (.inl ⟨by kernel_rfl, fun V hV => ?_⟩) hS ?_
  · have s0 := hV
    try obtain ⟨s1, s2⟩ := s0
    go_split_ands
    go_simp
    all_goals (first | assumption | skip)
  simp only [Act.put, List.setIfInBounds_toArray, List.set_cons_zero, List.set_cons_succ]
  refine wpAnyH_take (i := 6) (oi := ⟨some 52, .nilCheck (.tmp 51), 0, "disk.go:71", #[⟨5, .data⟩], none⟩) (v := .pointer (some ⟨gF, i * 3, none⟩)) rfl (by kernel_rfl) (by kernel_rfl) (by kernel_rfl) (fun _ _ _ h => hp _ _ _ _ h) (.inl ⟨by kernel_rfl, fun V hV => ?_⟩) hS ?_
  · have s0 := hV
    try obtain ⟨s1, s2⟩ := s0
    go_split_ands
    go_simp
    all_goals (first | assumption | skip)
  simp only [Act.put, List.setIfInBounds_toArray, List.set_cons_zero, List.set_cons_succ]
  refine wpAnyH_take (i := 7) (oi := ⟨some 53, .fieldAddr 75 (.tmp 52) 2, 0, "disk.go:71", #[⟨6, .data⟩], none⟩) (v := .pointer (some ⟨gF, i * 3 + 2, none⟩)) rfl (by kernel_rfl) (by kernel_rfl) (by kernel_rfl) (fun _ _ _ h => hp _ _ _ _ h) (.inl ⟨by kernel_rfl, fun V hV => ?_⟩) hS ?_
  · have s0 := hV
    try obtain ⟨s1, s2⟩ := s0
    go_split_ands
    go_simp
    all_goals (first | assumption | skip)
  simp only [Act.put, List.setIfInBounds_toArray, List.set_cons_zero, List.set_cons_succ]
  refine wpAnyH_take (i := 8) (oi := ⟨some 54, .load 3 (.tmp 53), 3, "disk.go:71", #[⟨7, .data⟩], none⟩) (v := .int .i64 ((k : Nat) : Int)) rfl (by kernel_rfl) (by kernel_rfl) (by kernel_rfl) (fun _ _ _ h => hp _ _ _ _ h) (.inl ⟨by kernel_rfl, fun V hV => ?_⟩) hS ?_
  · have s0 := hV
    try obtain ⟨s1, s2⟩ := s0
    go_split_ands
    go_simp
    all_goals (first | assumption | skip)
  simp only [Act.put, List.setIfInBounds_toArray, List.set_cons_zero, List.set_cons_succ]
  refine wpAnyH_ready (rs := [4]) (by kernel_rfl) (by simp) ?_
  refine (AllReadyH.cons (o := ⟨some 50, .load 35 (.tmp 49), 35, "disk.go:71", #[⟨3, .data⟩], none⟩) rfl (fun K hK => ?_) AllReadyH.nil)
  go_simp
  refine hK.out _ _ hS (fun _ => ?_)
  clear hK K
  try simp only [Act.put, List.setIfInBounds_toArray, List.set_cons_zero, List.set_cons_succ]
  refine wpAnyH_take (i := 9) (oi := ⟨some 55, .slice 35 (.tmp 50) none (some (.tmp 54)) none, 35, "disk.go:71", #[⟨4, .data⟩, ⟨8, .data⟩], none⟩) (v := .slice (some ⟨gv, 0, none⟩) k cv) rfl (by kernel_rfl) (by kernel_rfl) (by kernel_rfl) (fun _ _ _ h => hp _ _ _ _ h) (.inl ⟨by kernel_rfl, fun V hV => ?_⟩) hS ?_
  · have s0 := hV
    try obtain ⟨s1, s2⟩ := s0
    go_split_ands
    go_simp
    all_goals (first | assumption | skip)
  simp only [Act.put, List.setIfInBounds_toArray, List.set_cons_zero, List.set_cons_succ]
  refine wpAnyH_all (rs := [10]) (by kernel_rfl) (by simp) ?_
  intro i hiX
  obtain rfl : i = 10 := by simpa using hiX
  refine appB_opD (j := 10) (o := ⟨some 56, .call { callee := Callee.builtin Builtin.append, args := #[Operand.const (Value.slice none 0 0), .tmp 55], argTypes := #[35, 35] }, 35, "disk.go:71", #[⟨9, .data⟩], none⟩) rfl rfl (.const (.slice none 0 0)) (.tmp 55) rfl (.slice none 0 0) 0 [] (by simp [Act.eval]) (w := W.drew) (World.ownsRow_nil _ _ _ _) (some ⟨gv, 0, none⟩) k cv zs (by simp [Act.eval]) hl hzl (by simp) (by omega) ?_
  intro v' w' r1 r2 r3
  rw [Nat.zero_add] at r1
  have hS2 := hcv w' r2
  refine ⟨hS2, ?_⟩
  have hfz : w'.frozen? ⟨gF, i * 3 + 1, none⟩ = false := frozen_of_row _ _ (i * 3 + 1) _ _ ((r2.block gF (Array.getElem?_eq_some_iff.1 hB).1 (by simp [Value.ownBlock])).trans hB)
  have hbv : w'.cell? ⟨gF, i * 3 + 1, none⟩ = some (.slice (some ⟨gv, 0, none⟩) nv cv) := (World.cell?_of_block (a := ⟨gF, i * 3 + 1, none⟩) (r2.block gF (Array.getElem?_eq_some_iff.1 hB).1 (by simp [Value.ownBlock]))).trans hb
  have hfin := h v' w' (by simpa using r1) r2 (r3.elim (fun e => .inl e) (fun e => .inr ⟨_, e, by simp⟩))
  obtain ⟨a1, n1, rfl⟩ := d_shape r1
  try simp only [Act.put, List.setIfInBounds_toArray, List.set_cons_zero, List.set_cons_succ]
  refine wpAnyH_take (i := 11) (oi := ⟨some 57, .nilCheck (.tmp 46), 0, "disk.go:71", #[⟨0, .data⟩, ⟨0, .phase⟩, ⟨1, .phase⟩, ⟨2, .phase⟩, ⟨3, .phase⟩, ⟨4, .phase⟩, ⟨5, .phase⟩, ⟨6, .phase⟩, ⟨7, .phase⟩, ⟨8, .phase⟩, ⟨9, .phase⟩, ⟨10, .phase⟩], none⟩) (v := .pointer (some ⟨gF, i * 3, none⟩)) rfl (by kernel_rfl) (by kernel_rfl) (by kernel_rfl) (fun _ _ _ h => hp _ _ _ _ h) (.inl ⟨by kernel_rfl, fun V hV => ?_⟩) hS2 ?_
  · have s0 := hV
    try obtain ⟨s1, s2⟩ := s0
    go_split_ands
    go_simp
    all_goals (first | assumption | skip)
  simp only [Act.put, List.setIfInBounds_toArray, List.set_cons_zero, List.set_cons_succ]
  refine wpAnyH_take (i := 12) (oi := ⟨some 58, .fieldAddr 75 (.tmp 57) 1, 0, "disk.go:71", #[⟨11, .data⟩, ⟨0, .phase⟩, ⟨1, .phase⟩, ⟨2, .phase⟩, ⟨3, .phase⟩, ⟨4, .phase⟩, ⟨5, .phase⟩, ⟨6, .phase⟩, ⟨7, .phase⟩, ⟨8, .phase⟩, ⟨9, .phase⟩, ⟨10, .phase⟩], none⟩) (v := .pointer (some ⟨gF, i * 3 + 1, none⟩)) rfl (by kernel_rfl) (by kernel_rfl) (by kernel_rfl) (fun _ _ _ h => hp _ _ _ _ h) (.inl ⟨by kernel_rfl, fun V hV => ?_⟩) hS2 ?_
  · have s0 := hV
    try obtain ⟨s1, s2⟩ := s0
    go_split_ands
    go_simp
    all_goals (first | assumption | skip)
  simp only [Act.put, List.setIfInBounds_toArray, List.set_cons_zero, List.set_cons_succ]
  refine wpAnyH_ready (rs := [13]) (by kernel_rfl) (by simp) ?_
  refine (AllReadyH.cons (o := ⟨none, .store 35 (.tmp 58) (.tmp 56), 0, "disk.go:71", #[⟨12, .data⟩, ⟨10, .data⟩, ⟨10, .chain⟩, ⟨0, .phase⟩, ⟨1, .phase⟩, ⟨2, .phase⟩, ⟨3, .phase⟩, ⟨4, .phase⟩, ⟨5, .phase⟩, ⟨6, .phase⟩, ⟨7, .phase⟩, ⟨8, .phase⟩, ⟨9, .phase⟩, ⟨10, .phase⟩], none⟩) rfl (fun K hK => ?_) AllReadyH.nil)
  go_simp
  refine hK.out _ _ (hcw w' r2 _) (fun _ => ?_)
  clear hK K
  try simp only [Act.put, List.setIfInBounds_toArray, List.set_cons_zero, List.set_cons_succ]
  exact wpAnyH_done (Q := calmD Q) (by kernel_rfl) hfin _

def regCr5NOps : Array Oper := #[⟨some 46, .move (.tmp 5), 111, "disk.go:71", #[], none⟩,
  ⟨some 47, .move (.tmp 5), 111, "disk.go:71", #[], none⟩,
  ⟨some 48, .nilCheck (.tmp 47), 0, "disk.go:71", #[⟨1, .data⟩], none⟩,
  ⟨some 49, .fieldAddr 75 (.tmp 48) 1, 0, "disk.go:71", #[⟨2, .data⟩], none⟩,
  ⟨some 50, .load 35 (.tmp 49), 35, "disk.go:71", #[⟨3, .data⟩], none⟩,
  ⟨some 51, .move (.tmp 5), 111, "disk.go:71", #[], none⟩,
  ⟨some 52, .nilCheck (.tmp 51), 0, "disk.go:71", #[⟨5, .data⟩], none⟩,
  ⟨some 53, .fieldAddr 75 (.tmp 52) 2, 0, "disk.go:71", #[⟨6, .data⟩], none⟩,
  ⟨some 54, .load 3 (.tmp 53), 3, "disk.go:71", #[⟨7, .data⟩], none⟩,
  ⟨some 55, .slice 35 (.tmp 50) none (some (.tmp 54)) none, 35, "disk.go:71", #[⟨4, .data⟩, ⟨8, .data⟩], none⟩,
  ⟨some 56, .call { callee := Callee.builtin Builtin.append, args := #[Operand.const (Value.slice none 0 0), .tmp 55], argTypes := #[35, 35] }, 35, "disk.go:71", #[⟨9, .data⟩], none⟩,
  ⟨some 57, .nilCheck (.tmp 46), 0, "disk.go:71", #[⟨0, .data⟩, ⟨0, .phase⟩, ⟨1, .phase⟩, ⟨2, .phase⟩, ⟨3, .phase⟩, ⟨4, .phase⟩, ⟨5, .phase⟩, ⟨6, .phase⟩, ⟨7, .phase⟩, ⟨8, .phase⟩, ⟨9, .phase⟩, ⟨10, .phase⟩], none⟩,
  ⟨some 58, .fieldAddr 75 (.tmp 57) 1, 0, "disk.go:71", #[⟨11, .data⟩, ⟨0, .phase⟩, ⟨1, .phase⟩, ⟨2, .phase⟩, ⟨3, .phase⟩, ⟨4, .phase⟩, ⟨5, .phase⟩, ⟨6, .phase⟩, ⟨7, .phase⟩, ⟨8, .phase⟩, ⟨9, .phase⟩, ⟨10, .phase⟩], none⟩,
  ⟨none, .store 35 (.tmp 58) (.tmp 56), 0, "disk.go:71", #[⟨12, .data⟩, ⟨10, .data⟩, ⟨10, .chain⟩, ⟨0, .phase⟩, ⟨1, .phase⟩, ⟨2, .phase⟩, ⟨3, .phase⟩, ⟨4, .phase⟩, ⟨5, .phase⟩, ⟨6, .phase⟩, ⟨7, .phase⟩, ⟨8, .phase⟩, ⟨9, .phase⟩, ⟨10, .phase⟩], none⟩]
set_option maxRecDepth 100000 in
set_option maxHeartbeats 4000000 in
theorem regCr5N (Q : Exit → Act → World → Prop) (gF i : Nat) (zs : List Int) (cur : Array Value) {t0 t1 t2 t3 t4 t6 t7 t8 t9 t10 t11 t12 t13 t14 t15 t16 t17 t18 t19 t20 t21 t22 t23 t24 t25 t26 t27 t28 t29 t30 t31 t32 t33 t34 t35 t36 t37 t38 t39 t40 t41 t42 t43 t44 t45 t46 t47 t48 t49 t50 t51 t52 t53 t54 t55 t56 t57 t58 t59 t60 t61 t62 t63 t64 t65 t66 t67 t68 t69 t70 t71 : Value} (W : World)
    (hl : zs.length = 0) (hzl : Lies .u8 W.drew none zs) (hB : W.drew.heap[gF]? = some (.cells cur 75 (0, 0))) (hb : W.drew.cell? ⟨gF, i * 3 + 1, none⟩ = some (.slice none 0 0)) (hcv : ∀ V, W.drew.grownBy V (Value.slice none 0 0).ownBlock → V.cell? ⟨gF, i * 3 + 2, none⟩ = some (.int .i64 0)) (hcw : ∀ V, W.drew.grownBy V (Value.slice none 0 0).ownBlock → ∀ y, (V.setCell ⟨gF, i * 3 + 1, none⟩ y).cell? ⟨gF, i * 3 + 2, none⟩ = some (.int .i64 0))
    (h : ∀ v' w', w'.ownsRow 0 5 1 v' 0 (zs.map (Value.int .u8)) → W.drew.grownBy w' (Value.slice none 0 0).ownBlock → (v'.ownBlock = (Value.slice none 0 0).ownBlock ∨ ∃ g, v'.ownBlock = some g ∧ W.heap.size ≤ g) → Q .normal { tmps := (t0 :: t1 :: t2 :: t3 :: t4 :: .pointer (some ⟨gF, i * 3, none⟩) :: t6 :: t7 :: t8 :: t9 :: t10 :: t11 :: t12 :: t13 :: t14 :: t15 :: t16 :: t17 :: t18 :: t19 :: t20 :: t21 :: t22 :: t23 :: t24 :: t25 :: t26 :: t27 :: t28 :: t29 :: t30 :: t31 :: t32 :: t33 :: t34 :: t35 :: t36 :: t37 :: t38 :: t39 :: t40 :: t41 :: t42 :: t43 :: t44 :: t45 :: .pointer (some ⟨gF, i * 3, none⟩) :: .pointer (some ⟨gF, i * 3, none⟩) :: .pointer (some ⟨gF, i * 3, none⟩) :: .pointer (some ⟨gF, i * 3 + 1, none⟩) :: .slice none 0 0 :: .pointer (some ⟨gF, i * 3, none⟩) :: .pointer (some ⟨gF, i * 3, none⟩) :: .pointer (some ⟨gF, i * 3 + 2, none⟩) :: .int .i64 0 :: .slice none 0 0 :: v' :: .pointer (some ⟨gF, i * 3, none⟩) :: .pointer (some ⟨gF, i * 3 + 1, none⟩) :: t59 :: t60 :: t61 :: t62 :: t63 :: t64 :: t65 :: t66 :: t67 :: t68 :: t69 :: t70 :: t71 :: []).toArray, defers := [] } (w'.setCell ⟨gF, i * 3 + 1, none⟩ v')) :
    (Code.region 5 regCr5NOps true).wp Tryz.prog Q { tmps := (t0 :: t1 :: t2 :: t3 :: t4 :: .pointer (some ⟨gF, i * 3, none⟩) :: t6 :: t7 :: t8 :: t9 :: t10 :: t11 :: t12 :: t13 :: t14 :: t15 :: t16 :: t17 :: t18 :: t19 :: t20 :: t21 :: t22 :: t23 :: t24 :: t25 :: t26 :: t27 :: t28 :: t29 :: t30 :: t31 :: t32 :: t33 :: t34 :: t35 :: t36 :: t37 :: t38 :: t39 :: t40 :: t41 :: t42 :: t43 :: t44 :: t45 :: t46 :: t47 :: t48 :: t49 :: t50 :: t51 :: t52 :: t53 :: t54 :: t55 :: t56 :: t57 :: t58 :: t59 :: t60 :: t61 :: t62 :: t63 :: t64 :: t65 :: t66 :: t67 :: t68 :: t69 :: t70 :: t71 :: []).toArray, defers := [] } W := by
  refine Code.wp_mono (fun _ _ _ h => calmD_le h) ?_
  have hp : ∀ c a a' w, calmD Q (.panic c) a w → calmD Q (.panic c) a' w := fun _ _ _ _ h => h
  refine wp_region_held (S := fun V => V.cell? ⟨gF, i * 3 + 2, none⟩ = some (.int .i64 0)) (by kernel_rfl) ?_
  change wpAnyH _ _ _ _ _ _ _ _ W.drew
  have hS := hcv W.drew ⟨rfl, rfl, rfl, Nat.le_refl _, fun _ _ _ => rfl⟩
  refine wpAnyH_take (i := 0) (oi := ⟨some 46, .move (.tmp 5), 111, "disk.go:71", #[], none⟩) (v := .pointer (some ⟨gF, i * 3, none⟩)) rfl (by kernel_rfl) (by kernel_rfl) (by kernel_rfl) (fun _ _ _ h => hp _ _ _ _ h) (.inl ⟨by kernel_rfl, fun V hV => ?_⟩) hS ?_
  · have s0 := hV
    try obtain ⟨s1, s2⟩ := s0
    go_split_ands
    go_simp
    all_goals (first | assumption | skip)
  simp only [Act.put, List.setIfInBounds_toArray, List.set_cons_zero, List.set_cons_succ]
  refine wpAnyH_take (i := 1) (oi := ⟨some 47, .move (.tmp 5), 111, "disk.go:71", #[], none⟩) (v := .pointer (some ⟨gF, i * 3, none⟩)) rfl (by kernel_rfl) (by kernel_rfl) (by kernel_rfl) (fun _ _ _ h => hp _ _ _ _ h) (.inl ⟨by kernel_rfl, fun V hV => ?_⟩) hS ?_
  · have s0 := hV
    try obtain ⟨s1, s2⟩ := s0
    go_split_ands
    go_simp
    all_goals (first | assumption | skip)
  simp only [Act.put, List.setIfInBounds_toArray, List.set_cons_zero, List.set_cons_succ]
  refine wpAnyH_take (i := 2) (oi := ⟨some 48, .nilCheck (.tmp 47), 0, "disk.go:71", #[⟨1, .data⟩], none⟩) (v := .pointer (some ⟨gF, i * 3, none⟩)) rfl (by kernel_rfl) (by kernel_rfl) (by kernel_rfl) (fun _ _ _ h => hp _ _ _ _ h) (.inl ⟨by kernel_rfl, fun V hV => ?_⟩) hS ?_
  · have s0 := hV
    try obtain ⟨s1, s2⟩ := s0
    go_split_ands
    go_simp
    all_goals (first | assumption | skip)
  simp only [Act.put, List.setIfInBounds_toArray, List.set_cons_zero, List.set_cons_succ]
  refine wpAnyH_take (i := 3) (oi := ⟨some 49, .fieldAddr 75 (.tmp 48) 1, 0, "disk.go:71", #[⟨2, .data⟩], none⟩) (v := .pointer (some ⟨gF, i * 3 + 1, none⟩)) rfl (by kernel_rfl) (by kernel_rfl) (by kernel_rfl) (fun _ _ _ h => hp _ _ _ _ h) (.inl ⟨by kernel_rfl, fun V hV => ?_⟩) hS ?_
  · have s0 := hV
    try obtain ⟨s1, s2⟩ := s0
    go_split_ands
    go_simp
    all_goals (first | assumption | skip)
  simp only [Act.put, List.setIfInBounds_toArray, List.set_cons_zero, List.set_cons_succ]
  refine wpAnyH_take (i := 5) (oi := ⟨some 51, .move (.tmp 5), 111, "disk.go:71", #[], none⟩) (v := .pointer (some ⟨gF, i * 3, none⟩)) rfl (by kernel_rfl) (by kernel_rfl) (by kernel_rfl) (fun _ _ _ h => hp _ _ _ _ h) (.inl ⟨by kernel_rfl, fun V hV => ?_⟩) hS ?_
  · have s0 := hV
    try obtain ⟨s1, s2⟩ := s0
    go_split_ands
    go_simp
    all_goals (first | assumption | skip)
  simp only [Act.put, List.setIfInBounds_toArray, List.set_cons_zero, List.set_cons_succ]
  refine wpAnyH_take (i := 6) (oi := ⟨some 52, .nilCheck (.tmp 51), 0, "disk.go:71", #[⟨5, .data⟩], none⟩) (v := .pointer (some ⟨gF, i * 3, none⟩)) rfl (by kernel_rfl) (by kernel_rfl) (by kernel_rfl) (fun _ _ _ h => hp _ _ _ _ h) (.inl ⟨by kernel_rfl, fun V hV => ?_⟩) hS ?_
  · have s0 := hV
    try obtain ⟨s1, s2⟩ := s0
    go_split_ands
    go_simp
    all_goals (first | assumption | skip)
  simp only [Act.put, List.setIfInBounds_toArray, List.set_cons_zero, List.set_cons_succ]
  refine wpAnyH_take (i := 7) (oi := ⟨some 53, .fieldAddr 75 (.tmp 52) 2, 0, "disk.go:71", #[⟨6, .data⟩], none⟩) (v := .pointer (some ⟨gF, i * 3 + 2, none⟩)) rfl (by kernel_rfl) (by kernel_rfl) (by kernel_rfl) (fun _ _ _ h => hp _ _ _ _ h) (.inl ⟨by kernel_rfl, fun V hV => ?_⟩) hS ?_
  · have s0 := hV
    try obtain ⟨s1, s2⟩ := s0
    go_split_ands
    go_simp
    all_goals (first | assumption | skip)
  simp only [Act.put, List.setIfInBounds_toArray, List.set_cons_zero, List.set_cons_succ]
  refine wpAnyH_take (i := 8) (oi := ⟨some 54, .load 3 (.tmp 53), 3, "disk.go:71", #[⟨7, .data⟩], none⟩) (v := .int .i64 0) rfl (by kernel_rfl) (by kernel_rfl) (by kernel_rfl) (fun _ _ _ h => hp _ _ _ _ h) (.inl ⟨by kernel_rfl, fun V hV => ?_⟩) hS ?_
  · have s0 := hV
    try obtain ⟨s1, s2⟩ := s0
    go_split_ands
    go_simp
    all_goals (first | assumption | skip)
  simp only [Act.put, List.setIfInBounds_toArray, List.set_cons_zero, List.set_cons_succ]
  refine wpAnyH_ready (rs := [4]) (by kernel_rfl) (by simp) ?_
  refine (AllReadyH.cons (o := ⟨some 50, .load 35 (.tmp 49), 35, "disk.go:71", #[⟨3, .data⟩], none⟩) rfl (fun K hK => ?_) AllReadyH.nil)
  go_simp
  refine hK.out _ _ hS (fun _ => ?_)
  clear hK K
  try simp only [Act.put, List.setIfInBounds_toArray, List.set_cons_zero, List.set_cons_succ]
  refine wpAnyH_take (i := 9) (oi := ⟨some 55, .slice 35 (.tmp 50) none (some (.tmp 54)) none, 35, "disk.go:71", #[⟨4, .data⟩, ⟨8, .data⟩], none⟩) (v := .slice none 0 0) rfl (by kernel_rfl) (by kernel_rfl) (by kernel_rfl) (fun _ _ _ h => hp _ _ _ _ h) (.inl ⟨by kernel_rfl, fun V hV => ?_⟩) hS ?_
  · have s0 := hV
    try obtain ⟨s1, s2⟩ := s0
    go_split_ands
    go_simp
    all_goals (first | assumption | skip)
  simp only [Act.put, List.setIfInBounds_toArray, List.set_cons_zero, List.set_cons_succ]
  refine wpAnyH_all (rs := [10]) (by kernel_rfl) (by simp) ?_
  intro i hiX
  obtain rfl : i = 10 := by simpa using hiX
  refine appB_opD (j := 10) (o := ⟨some 56, .call { callee := Callee.builtin Builtin.append, args := #[Operand.const (Value.slice none 0 0), .tmp 55], argTypes := #[35, 35] }, 35, "disk.go:71", #[⟨9, .data⟩], none⟩) rfl rfl (.const (.slice none 0 0)) (.tmp 55) rfl (.slice none 0 0) 0 [] (by simp [Act.eval]) (w := W.drew) (World.ownsRow_nil _ _ _ _) none 0 0 zs (by simp [Act.eval]) hl hzl (by simp) (by omega) ?_
  intro v' w' r1 r2 r3
  rw [Nat.zero_add] at r1
  have hS2 := hcv w' r2
  refine ⟨hS2, ?_⟩
  have hfz : w'.frozen? ⟨gF, i * 3 + 1, none⟩ = false := frozen_of_row _ _ (i * 3 + 1) _ _ ((r2.block gF (Array.getElem?_eq_some_iff.1 hB).1 (by simp [Value.ownBlock])).trans hB)
  have hbv : w'.cell? ⟨gF, i * 3 + 1, none⟩ = some (.slice none 0 0) := (World.cell?_of_block (a := ⟨gF, i * 3 + 1, none⟩) (r2.block gF (Array.getElem?_eq_some_iff.1 hB).1 (by simp [Value.ownBlock]))).trans hb
  have hfin := h v' w' (by simpa using r1) r2 (r3.elim (fun e => .inl e) (fun e => .inr ⟨_, e, by simp⟩))
  obtain ⟨a1, n1, rfl⟩ := d_shape r1
  try simp only [Act.put, List.setIfInBounds_toArray, List.set_cons_zero, List.set_cons_succ]
  refine wpAnyH_take (i := 11) (oi := ⟨some 57, .nilCheck (.tmp 46), 0, "disk.go:71", #[⟨0, .data⟩, ⟨0, .phase⟩, ⟨1, .phase⟩, ⟨2, .phase⟩, ⟨3, .phase⟩, ⟨4, .phase⟩, ⟨5, .phase⟩, ⟨6, .phase⟩, ⟨7, .phase⟩, ⟨8, .phase⟩, ⟨9, .phase⟩, ⟨10, .phase⟩], none⟩) (v := .pointer (some ⟨gF, i * 3, none⟩)) rfl (by kernel_rfl) (by kernel_rfl) (by kernel_rfl) (fun _ _ _ h => hp _ _ _ _ h) (.inl ⟨by kernel_rfl, fun V hV => ?_⟩) hS2 ?_
  · have s0 := hV
    try obtain ⟨s1, s2⟩ := s0
    go_split_ands
    go_simp
    all_goals (first | assumption | skip)
  simp only [Act.put, List.setIfInBounds_toArray, List.set_cons_zero, List.set_cons_succ]
  refine wpAnyH_take (i := 12) (oi := ⟨some 58, .fieldAddr 75 (.tmp 57) 1, 0, "disk.go:71", #[⟨11, .data⟩, ⟨0, .phase⟩, ⟨1, .phase⟩, ⟨2, .phase⟩, ⟨3, .phase⟩, ⟨4, .phase⟩, ⟨5, .phase⟩, ⟨6, .phase⟩, ⟨7, .phase⟩, ⟨8, .phase⟩, ⟨9, .phase⟩, ⟨10, .phase⟩], none⟩) (v := .pointer (some ⟨gF, i * 3 + 1, none⟩)) rfl (by kernel_rfl) (by kernel_rfl) (by kernel_rfl) (fun _ _ _ h => hp _ _ _ _ h) (.inl ⟨by kernel_rfl, fun V hV => ?_⟩) hS2 ?_
  · have s0 := hV
    try obtain ⟨s1, s2⟩ := s0
    go_split_ands
    go_simp
    all_goals (first | assumption | skip)
  simp only [Act.put, List.setIfInBounds_toArray, List.set_cons_zero, List.set_cons_succ]
  refine wpAnyH_ready (rs := [13]) (by kernel_rfl) (by simp) ?_
  refine (AllReadyH.cons (o := ⟨none, .store 35 (.tmp 58) (.tmp 56), 0, "disk.go:71", #[⟨12, .data⟩, ⟨10, .data⟩, ⟨10, .chain⟩, ⟨0, .phase⟩, ⟨1, .phase⟩, ⟨2, .phase⟩, ⟨3, .phase⟩, ⟨4, .phase⟩, ⟨5, .phase⟩, ⟨6, .phase⟩, ⟨7, .phase⟩, ⟨8, .phase⟩, ⟨9, .phase⟩, ⟨10, .phase⟩], none⟩) rfl (fun K hK => ?_) AllReadyH.nil)
  go_simp
  refine hK.out _ _ (hcw w' r2 _) (fun _ => ?_)
  clear hK K
  try simp only [Act.put, List.setIfInBounds_toArray, List.set_cons_zero, List.set_cons_succ]
  exact wpAnyH_done (Q := calmD Q) (by kernel_rfl) hfin _

def regFi5Ops : Array Oper := #[⟨some 18, .move (.tmp 3), 72, "disk.go:80", #[], none⟩,
  ⟨some 19, .fieldAddr 75 (.tmp 5) 0, 0, "disk.go:80", #[], none⟩,
  ⟨some 20, .load 9 (.tmp 19), 9, "disk.go:80", #[⟨1, .data⟩], none⟩,
  ⟨some 21, .fieldAddr 75 (.tmp 5) 1, 0, "disk.go:80", #[], none⟩,
  ⟨some 22, .load 35 (.tmp 21), 35, "disk.go:80", #[⟨3, .data⟩], none⟩,
  ⟨some 23, .call { callee := Callee.builtin Builtin.append, args := #[Operand.const (Value.slice none 0 0), .tmp 22], argTypes := #[35, 35] }, 35, "disk.go:80", #[⟨4, .data⟩], none⟩,
  ⟨some 24, .fieldAddr 75 (.tmp 5) 2, 0, "disk.go:80", #[], none⟩,
  ⟨some 25, .load 3 (.tmp 24), 3, "disk.go:80", #[⟨6, .data⟩], none⟩,
  ⟨some 26, .build 75 #[(0, .tmp 20), (1, .tmp 23), (2, .tmp 25)], 75, "disk.go:80", #[⟨2, .data⟩, ⟨5, .data⟩, ⟨7, .data⟩], none⟩,
  ⟨some 27, .buildSlice 72 1 #[(0, .tmp 26)], 72, "disk.go:80", #[⟨8, .data⟩], none⟩,
  ⟨some 28, .call { callee := Callee.builtin Builtin.append, args := #[.tmp 18, .tmp 27], argTypes := #[72, 72] }, 72, "disk.go:80", #[⟨0, .data⟩, ⟨9, .data⟩, ⟨5, .chain⟩], none⟩,
  ⟨some 3, .assign (.tmp 28), 72, "disk.go:80", #[⟨10, .data⟩, ⟨10, .chain⟩, ⟨0, .phase⟩, ⟨1, .phase⟩, ⟨2, .phase⟩, ⟨3, .phase⟩, ⟨4, .phase⟩, ⟨5, .phase⟩, ⟨6, .phase⟩, ⟨7, .phase⟩, ⟨8, .phase⟩, ⟨9, .phase⟩, ⟨10, .phase⟩], none⟩]
end Go.Proofs.YtllhbhogfffedaaGreatDoor.K
