import Derived.Test.YtllhbhogfffedaaGreatDoorDkMet
namespace Go.Proofs.YtllhbhogfffedaaGreatDoor.K
open Go.RowKit
attribute [local go_sem] Oper.semAt_some
set_option linter.unusedVariables false
set_option linter.unusedSimpArgs false

def regCr4Ops : Array Oper := #[{ dst := some 26, op := Op.move (Operand.tmp 5), type := 111, pos := "disk.go:70", after := #[], guard := none },
  { dst := some 27, op := Op.nilCheck (Operand.tmp 26), type := 0, pos := "disk.go:70", after := #[{ on := 0, ground := Ground.data }], guard := none },
  { dst := some 28, op := Op.fieldAddr 75 (Operand.tmp 27) 2, type := 0, pos := "disk.go:70", after := #[{ on := 1, ground := Ground.data }], guard := none },
  { dst := some 29, op := Op.load 3 (Operand.tmp 28), type := 3, pos := "disk.go:70", after := #[{ on := 2, ground := Ground.data }], guard := none },
  { dst := some 30, op := Op.move (Operand.tmp 1), type := 3, pos := "disk.go:70", after := #[], guard := none },
  { dst := some 31, op := Op.call { callee := Callee.builtin Builtin.max, args := #[Operand.tmp 30, Operand.const (Value.int IntKind.i64 0)], argTypes := #[3, 3] }, type := 3, pos := "disk.go:70", after := #[{ on := 4, ground := Ground.data }], guard := none },
  { dst := some 32, op := Op.move (Operand.tmp 5), type := 111, pos := "disk.go:70", after := #[], guard := none },
  { dst := some 33, op := Op.nilCheck (Operand.tmp 32), type := 0, pos := "disk.go:70", after := #[{ on := 6, ground := Ground.data }], guard := none },
  { dst := some 34, op := Op.fieldAddr 75 (Operand.tmp 33) 1, type := 0, pos := "disk.go:70", after := #[{ on := 7, ground := Ground.data }], guard := none },
  { dst := some 35, op := Op.load 35 (Operand.tmp 34), type := 35, pos := "disk.go:70", after := #[{ on := 8, ground := Ground.data }], guard := none },
  { dst := some 36, op := Op.call { callee := Callee.builtin Builtin.len, args := #[Operand.tmp 35], argTypes := #[35] }, type := 3, pos := "disk.go:70", after := #[{ on := 9, ground := Ground.data }], guard := none },
  { dst := some 37, op := Op.move (Operand.tmp 5), type := 111, pos := "disk.go:70", after := #[], guard := none },
  { dst := some 38, op := Op.nilCheck (Operand.tmp 37), type := 0, pos := "disk.go:70", after := #[{ on := 11, ground := Ground.data }], guard := none },
  { dst := some 39, op := Op.fieldAddr 75 (Operand.tmp 38) 2, type := 0, pos := "disk.go:70", after := #[{ on := 12, ground := Ground.data }], guard := none },
  { dst := some 40, op := Op.load 3 (Operand.tmp 39), type := 3, pos := "disk.go:70", after := #[{ on := 13, ground := Ground.data }], guard := none },
  { dst := some 41, op := Op.binOp BinOp.sub 3 (Operand.tmp 36) (Operand.tmp 40) 3, type := 3, pos := "disk.go:70", after := #[{ on := 10, ground := Ground.data }, { on := 14, ground := Ground.data }], guard := none },
  { dst := some 42, op := Op.call { callee := Callee.builtin Builtin.min, args := #[Operand.tmp 31, Operand.tmp 41], argTypes := #[3, 3] }, type := 3, pos := "disk.go:70", after := #[{ on := 5, ground := Ground.data }, { on := 15, ground := Ground.data }], guard := none },
  { dst := some 43, op := Op.binOp BinOp.add 3 (Operand.tmp 29) (Operand.tmp 42) 3, type := 3, pos := "disk.go:70", after := #[{ on := 3, ground := Ground.data }, { on := 16, ground := Ground.data }], guard := none },
  { dst := some 44, op := Op.nilCheck (Operand.tmp 26), type := 0, pos := "disk.go:70", after := #[{ on := 0, ground := Ground.data }, { on := 0, ground := Ground.phase }, { on := 1, ground := Ground.phase }, { on := 2, ground := Ground.phase }, { on := 3, ground := Ground.phase }, { on := 4, ground := Ground.phase }, { on := 5, ground := Ground.phase }, { on := 6, ground := Ground.phase }, { on := 7, ground := Ground.phase }, { on := 8, ground := Ground.phase }, { on := 9, ground := Ground.phase }, { on := 10, ground := Ground.phase }, { on := 11, ground := Ground.phase }, { on := 12, ground := Ground.phase }, { on := 13, ground := Ground.phase }, { on := 14, ground := Ground.phase }, { on := 15, ground := Ground.phase }, { on := 16, ground := Ground.phase }, { on := 17, ground := Ground.phase }], guard := none },
  { dst := some 45, op := Op.fieldAddr 75 (Operand.tmp 44) 2, type := 0, pos := "disk.go:70", after := #[{ on := 18, ground := Ground.data }, { on := 0, ground := Ground.phase }, { on := 1, ground := Ground.phase }, { on := 2, ground := Ground.phase }, { on := 3, ground := Ground.phase }, { on := 4, ground := Ground.phase }, { on := 5, ground := Ground.phase }, { on := 6, ground := Ground.phase }, { on := 7, ground := Ground.phase }, { on := 8, ground := Ground.phase }, { on := 9, ground := Ground.phase }, { on := 10, ground := Ground.phase }, { on := 11, ground := Ground.phase }, { on := 12, ground := Ground.phase }, { on := 13, ground := Ground.phase }, { on := 14, ground := Ground.phase }, { on := 15, ground := Ground.phase }, { on := 16, ground := Ground.phase }, { on := 17, ground := Ground.phase }], guard := none },
  { dst := none, op := Op.store 3 (Operand.tmp 45) (Operand.tmp 43), type := 0, pos := "disk.go:70", after := #[{ on := 19, ground := Ground.data }, { on := 17, ground := Ground.data }, { on := 0, ground := Ground.phase }, { on := 1, ground := Ground.phase }, { on := 2, ground := Ground.phase }, { on := 3, ground := Ground.phase }, { on := 4, ground := Ground.phase }, { on := 5, ground := Ground.phase }, { on := 6, ground := Ground.phase }, { on := 7, ground := Ground.phase }, { on := 8, ground := Ground.phase }, { on := 9, ground := Ground.phase }, { on := 10, ground := Ground.phase }, { on := 11, ground := Ground.phase }, { on := 12, ground := Ground.phase }, { on := 13, ground := Ground.phase }, { on := 14, ground := Ground.phase }, { on := 15, ground := Ground.phase }, { on := 16, ground := Ground.phase }, { on := 17, ground := Ground.phase }], guard := none }]
set_option maxRecDepth 100000 in
set_option maxHeartbeats 4000000 in
theorem regCr4 (Q : Exit → Act → World → Prop) (gF i : Nat) (keep sf M q : Int) (av : Option Addr) (nv cv : Nat) {t0 t2 t3 t4 t6 t7 t8 t9 t10 t11 t12 t13 t14 t15 t16 t17 t18 t19 t20 t21 t22 t23 t24 t25 t26 t27 t28 t29 t30 t31 t32 t33 t34 t35 t36 t37 t38 t39 t40 t41 t42 t43 t44 t45 t46 t47 t48 t49 t50 t51 t52 t53 t54 t55 t56 t57 t58 t59 t60 t61 t62 t63 t64 t65 t66 t67 t68 t69 t70 t71 : Value} (W : World)
    (hM : (if keep < 0 then 0 else keep) = M) (hq : (if (nv : Int) - sf < M then (nv : Int) - sf else M) = q) (hw1 : IntKind.i64.wrap ((nv : Int) - sf) = (nv : Int) - sf) (hw2 : IntKind.i64.wrap (sf + q) = sf + q) (hb : W.drew.cell? ⟨gF, i * 3 + 2, none⟩ = some (.int .i64 sf)) (hz : W.drew.frozen? ⟨gF, i * 3 + 2, none⟩ = false) (hS : W.drew.cell? ⟨gF, i * 3 + 1, none⟩ = some (.slice av nv cv)) (hcx : ∀ y, (W.drew.setCell ⟨gF, i * 3 + 2, none⟩ y).cell? ⟨gF, i * 3 + 1, none⟩ = some (.slice av nv cv))
    (h : Q .normal { tmps := (t0 :: .int .i64 keep :: t2 :: t3 :: t4 :: .pointer (some ⟨gF, i * 3, none⟩) :: t6 :: t7 :: t8 :: t9 :: t10 :: t11 :: t12 :: t13 :: t14 :: t15 :: t16 :: t17 :: t18 :: t19 :: t20 :: t21 :: t22 :: t23 :: t24 :: t25 :: .pointer (some ⟨gF, i * 3, none⟩) :: .pointer (some ⟨gF, i * 3, none⟩) :: .pointer (some ⟨gF, i * 3 + 2, none⟩) :: .int .i64 sf :: .int .i64 keep :: .int .i64 M :: .pointer (some ⟨gF, i * 3, none⟩) :: .pointer (some ⟨gF, i * 3, none⟩) :: .pointer (some ⟨gF, i * 3 + 1, none⟩) :: .slice av nv cv :: .int .i64 ((nv : Nat) : Int) :: .pointer (some ⟨gF, i * 3, none⟩) :: .pointer (some ⟨gF, i * 3, none⟩) :: .pointer (some ⟨gF, i * 3 + 2, none⟩) :: .int .i64 sf :: .int .i64 ((nv : Int) - sf) :: .int .i64 q :: .int .i64 (sf + q) :: .pointer (some ⟨gF, i * 3, none⟩) :: .pointer (some ⟨gF, i * 3 + 2, none⟩) :: t46 :: t47 :: t48 :: t49 :: t50 :: t51 :: t52 :: t53 :: t54 :: t55 :: t56 :: t57 :: t58 :: t59 :: t60 :: t61 :: t62 :: t63 :: t64 :: t65 :: t66 :: t67 :: t68 :: t69 :: t70 :: t71 :: []).toArray, defers := [] } (W.drew.setCell ⟨gF, i * 3 + 2, none⟩ (.int .i64 (sf + q)))) :
    (Code.region 4 regCr4Ops true).wp Tryz.prog Q { tmps := (t0 :: .int .i64 keep :: t2 :: t3 :: t4 :: .pointer (some ⟨gF, i * 3, none⟩) :: t6 :: t7 :: t8 :: t9 :: t10 :: t11 :: t12 :: t13 :: t14 :: t15 :: t16 :: t17 :: t18 :: t19 :: t20 :: t21 :: t22 :: t23 :: t24 :: t25 :: t26 :: t27 :: t28 :: t29 :: t30 :: t31 :: t32 :: t33 :: t34 :: t35 :: t36 :: t37 :: t38 :: t39 :: t40 :: t41 :: t42 :: t43 :: t44 :: t45 :: t46 :: t47 :: t48 :: t49 :: t50 :: t51 :: t52 :: t53 :: t54 :: t55 :: t56 :: t57 :: t58 :: t59 :: t60 :: t61 :: t62 :: t63 :: t64 :: t65 :: t66 :: t67 :: t68 :: t69 :: t70 :: t71 :: []).toArray, defers := [] } W := by
  refine Code.wp_mono (fun _ _ _ h => calmD_le h) ?_
  have hp : ∀ c a a' w, calmD Q (.panic c) a w → calmD Q (.panic c) a' w := fun _ _ _ _ h => h
  refine wp_region_held (S := fun V => V.cell? ⟨gF, i * 3 + 1, none⟩ = some (.slice av nv cv)) (by kernel_rfl) ?_
  change wpAnyH _ _ _ _ _ _ _ _ W.drew
  refine wpAnyH_take (i := 0) (oi := { dst := some 26, op := Op.move (Operand.tmp 5), type := 111, pos := "disk.go:70", after := #[], guard := none }) (v := .pointer (some ⟨gF, i * 3, none⟩)) rfl (by kernel_rfl) (by kernel_rfl) (by kernel_rfl) (fun _ _ _ h => hp _ _ _ _ h) (.inl ⟨by kernel_rfl, fun V hV => ?_⟩) hS ?_
  · have s0 := hV
    try obtain ⟨s1, s2⟩ := s0
    go_split_ands
    go_simp
    all_goals (first | assumption | skip)
  simp only [Act.put, List.setIfInBounds_toArray, List.set_cons_zero, List.set_cons_succ]
  refine wpAnyH_take (i := 1) (oi := { dst := some 27, op := Op.nilCheck (Operand.tmp 26), type := 0, pos := "disk.go:70", after := #[{ on := 0, ground := Ground.data }], guard := none }) (v := .pointer (some ⟨gF, i * 3, none⟩)) rfl (by kernel_rfl) (by kernel_rfl) (by kernel_rfl) (fun _ _ _ h => hp _ _ _ _ h) (.inl ⟨by kernel_rfl, fun V hV => ?_⟩) hS ?_
  · have s0 := hV
    try obtain ⟨s1, s2⟩ := s0
    go_split_ands
    go_simp
    all_goals (first | assumption | skip)
  simp only [Act.put, List.setIfInBounds_toArray, List.set_cons_zero, List.set_cons_succ]
  refine wpAnyH_take (i := 2) (oi := { dst := some 28, op := Op.fieldAddr 75 (Operand.tmp 27) 2, type := 0, pos := "disk.go:70", after := #[{ on := 1, ground := Ground.data }], guard := none }) (v := .pointer (some ⟨gF, i * 3 + 2, none⟩)) rfl (by kernel_rfl) (by kernel_rfl) (by kernel_rfl) (fun _ _ _ h => hp _ _ _ _ h) (.inl ⟨by kernel_rfl, fun V hV => ?_⟩) hS ?_
  · have s0 := hV
    try obtain ⟨s1, s2⟩ := s0
    go_split_ands
    go_simp
    all_goals (first | assumption | skip)
  simp only [Act.put, List.setIfInBounds_toArray, List.set_cons_zero, List.set_cons_succ]
  refine wpAnyH_take (i := 4) (oi := { dst := some 30, op := Op.move (Operand.tmp 1), type := 3, pos := "disk.go:70", after := #[], guard := none }) (v := .int .i64 keep) rfl (by kernel_rfl) (by kernel_rfl) (by kernel_rfl) (fun _ _ _ h => hp _ _ _ _ h) (.inl ⟨by kernel_rfl, fun V hV => ?_⟩) hS ?_
  · have s0 := hV
    try obtain ⟨s1, s2⟩ := s0
    go_split_ands
    go_simp
    all_goals (first | assumption | skip)
  simp only [Act.put, List.setIfInBounds_toArray, List.set_cons_zero, List.set_cons_succ]
  refine wpAnyH_take (i := 5) (oi := { dst := some 31, op := Op.call { callee := Callee.builtin Builtin.max, args := #[Operand.tmp 30, Operand.const (Value.int IntKind.i64 0)], argTypes := #[3, 3] }, type := 3, pos := "disk.go:70", after := #[{ on := 4, ground := Ground.data }], guard := none }) (v := .int .i64 M) rfl (by kernel_rfl) (by kernel_rfl) (by kernel_rfl) (fun _ _ _ h => hp _ _ _ _ h) (.inl ⟨by kernel_rfl, fun V hV => ?_⟩) hS ?_
  · have s0 := hV
    try obtain ⟨s1, s2⟩ := s0
    go_split_ands
    go_simp
    all_goals (first | assumption | skip)
  simp only [Act.put, List.setIfInBounds_toArray, List.set_cons_zero, List.set_cons_succ]
  refine wpAnyH_take (i := 6) (oi := { dst := some 32, op := Op.move (Operand.tmp 5), type := 111, pos := "disk.go:70", after := #[], guard := none }) (v := .pointer (some ⟨gF, i * 3, none⟩)) rfl (by kernel_rfl) (by kernel_rfl) (by kernel_rfl) (fun _ _ _ h => hp _ _ _ _ h) (.inl ⟨by kernel_rfl, fun V hV => ?_⟩) hS ?_
  · have s0 := hV
    try obtain ⟨s1, s2⟩ := s0
    go_split_ands
    go_simp
    all_goals (first | assumption | skip)
  simp only [Act.put, List.setIfInBounds_toArray, List.set_cons_zero, List.set_cons_succ]
  refine wpAnyH_take (i := 7) (oi := { dst := some 33, op := Op.nilCheck (Operand.tmp 32), type := 0, pos := "disk.go:70", after := #[{ on := 6, ground := Ground.data }], guard := none }) (v := .pointer (some ⟨gF, i * 3, none⟩)) rfl (by kernel_rfl) (by kernel_rfl) (by kernel_rfl) (fun _ _ _ h => hp _ _ _ _ h) (.inl ⟨by kernel_rfl, fun V hV => ?_⟩) hS ?_
  · have s0 := hV
    try obtain ⟨s1, s2⟩ := s0
    go_split_ands
    go_simp
    all_goals (first | assumption | skip)
  simp only [Act.put, List.setIfInBounds_toArray, List.set_cons_zero, List.set_cons_succ]
  refine wpAnyH_take (i := 8) (oi := { dst := some 34, op := Op.fieldAddr 75 (Operand.tmp 33) 1, type := 0, pos := "disk.go:70", after := #[{ on := 7, ground := Ground.data }], guard := none }) (v := .pointer (some ⟨gF, i * 3 + 1, none⟩)) rfl (by kernel_rfl) (by kernel_rfl) (by kernel_rfl) (fun _ _ _ h => hp _ _ _ _ h) (.inl ⟨by kernel_rfl, fun V hV => ?_⟩) hS ?_
  · have s0 := hV
    try obtain ⟨s1, s2⟩ := s0
    go_split_ands
    go_simp
    all_goals (first | assumption | skip)
  simp only [Act.put, List.setIfInBounds_toArray, List.set_cons_zero, List.set_cons_succ]
  refine wpAnyH_take (i := 9) (oi := { dst := some 35, op := Op.load 35 (Operand.tmp 34), type := 35, pos := "disk.go:70", after := #[{ on := 8, ground := Ground.data }], guard := none }) (v := .slice av nv cv) rfl (by kernel_rfl) (by kernel_rfl) (by kernel_rfl) (fun _ _ _ h => hp _ _ _ _ h) (.inl ⟨by kernel_rfl, fun V hV => ?_⟩) hS ?_
  · have s0 := hV
    try obtain ⟨s1, s2⟩ := s0
    go_split_ands
    go_simp
    all_goals (first | assumption | skip)
  simp only [Act.put, List.setIfInBounds_toArray, List.set_cons_zero, List.set_cons_succ]
  refine wpAnyH_take (i := 10) (oi := { dst := some 36, op := Op.call { callee := Callee.builtin Builtin.len, args := #[Operand.tmp 35], argTypes := #[35] }, type := 3, pos := "disk.go:70", after := #[{ on := 9, ground := Ground.data }], guard := none }) (v := .int .i64 ((nv : Nat) : Int)) rfl (by kernel_rfl) (by kernel_rfl) (by kernel_rfl) (fun _ _ _ h => hp _ _ _ _ h) (.inl ⟨by kernel_rfl, fun V hV => ?_⟩) hS ?_
  · have s0 := hV
    try obtain ⟨s1, s2⟩ := s0
    go_split_ands
    go_simp
    all_goals (first | assumption | skip)
  simp only [Act.put, List.setIfInBounds_toArray, List.set_cons_zero, List.set_cons_succ]
  refine wpAnyH_take (i := 11) (oi := { dst := some 37, op := Op.move (Operand.tmp 5), type := 111, pos := "disk.go:70", after := #[], guard := none }) (v := .pointer (some ⟨gF, i * 3, none⟩)) rfl (by kernel_rfl) (by kernel_rfl) (by kernel_rfl) (fun _ _ _ h => hp _ _ _ _ h) (.inl ⟨by kernel_rfl, fun V hV => ?_⟩) hS ?_
  · have s0 := hV
    try obtain ⟨s1, s2⟩ := s0
    go_split_ands
    go_simp
    all_goals (first | assumption | skip)
  simp only [Act.put, List.setIfInBounds_toArray, List.set_cons_zero, List.set_cons_succ]
  refine wpAnyH_take (i := 12) (oi := { dst := some 38, op := Op.nilCheck (Operand.tmp 37), type := 0, pos := "disk.go:70", after := #[{ on := 11, ground := Ground.data }], guard := none }) (v := .pointer (some ⟨gF, i * 3, none⟩)) rfl (by kernel_rfl) (by kernel_rfl) (by kernel_rfl) (fun _ _ _ h => hp _ _ _ _ h) (.inl ⟨by kernel_rfl, fun V hV => ?_⟩) hS ?_
  · have s0 := hV
    try obtain ⟨s1, s2⟩ := s0
    go_split_ands
    go_simp
    all_goals (first | assumption | skip)
  simp only [Act.put, List.setIfInBounds_toArray, List.set_cons_zero, List.set_cons_succ]
  refine wpAnyH_take (i := 13) (oi := { dst := some 39, op := Op.fieldAddr 75 (Operand.tmp 38) 2, type := 0, pos := "disk.go:70", after := #[{ on := 12, ground := Ground.data }], guard := none }) (v := .pointer (some ⟨gF, i * 3 + 2, none⟩)) rfl (by kernel_rfl) (by kernel_rfl) (by kernel_rfl) (fun _ _ _ h => hp _ _ _ _ h) (.inl ⟨by kernel_rfl, fun V hV => ?_⟩) hS ?_
  · have s0 := hV
    try obtain ⟨s1, s2⟩ := s0
    go_split_ands
    go_simp
    all_goals (first | assumption | skip)
  simp only [Act.put, List.setIfInBounds_toArray, List.set_cons_zero, List.set_cons_succ]
  refine wpAnyH_ready (rs := [3, 14]) (by kernel_rfl) (by simp) ?_
  refine (AllReadyH.cons (o := { dst := some 29, op := Op.load 3 (Operand.tmp 28), type := 3, pos := "disk.go:70", after := #[{ on := 2, ground := Ground.data }], guard := none }) rfl (fun K hK => ?_) (AllReadyH.cons (o := { dst := some 40, op := Op.load 3 (Operand.tmp 39), type := 3, pos := "disk.go:70", after := #[{ on := 13, ground := Ground.data }], guard := none }) rfl (fun K hK => ?_) AllReadyH.nil))
  · go_simp
    refine hK.out _ _ hS (fun _ => ?_)
    clear hK K
    try simp only [Act.put, List.setIfInBounds_toArray, List.set_cons_zero, List.set_cons_succ]
    refine wpAnyH_ready (rs := [14]) (by kernel_rfl) (by simp) ?_
    refine (AllReadyH.cons (o := { dst := some 40, op := Op.load 3 (Operand.tmp 39), type := 3, pos := "disk.go:70", after := #[{ on := 13, ground := Ground.data }], guard := none }) rfl (fun K hK => ?_) AllReadyH.nil)
    go_simp
    refine hK.out _ _ hS (fun _ => ?_)
    clear hK K
    try simp only [Act.put, List.setIfInBounds_toArray, List.set_cons_zero, List.set_cons_succ]
    refine wpAnyH_take (i := 15) (oi := { dst := some 41, op := Op.binOp BinOp.sub 3 (Operand.tmp 36) (Operand.tmp 40) 3, type := 3, pos := "disk.go:70", after := #[{ on := 10, ground := Ground.data }, { on := 14, ground := Ground.data }], guard := none }) (v := .int .i64 ((nv : Int) - sf)) rfl (by kernel_rfl) (by kernel_rfl) (by kernel_rfl) (fun _ _ _ h => hp _ _ _ _ h) (.inl ⟨by kernel_rfl, fun V hV => ?_⟩) hS ?_
    · have s0 := hV
      try obtain ⟨s1, s2⟩ := s0
      go_split_ands
      go_simp
      all_goals (first | assumption | skip)
    simp only [Act.put, List.setIfInBounds_toArray, List.set_cons_zero, List.set_cons_succ]
    refine wpAnyH_take (i := 16) (oi := { dst := some 42, op := Op.call { callee := Callee.builtin Builtin.min, args := #[Operand.tmp 31, Operand.tmp 41], argTypes := #[3, 3] }, type := 3, pos := "disk.go:70", after := #[{ on := 5, ground := Ground.data }, { on := 15, ground := Ground.data }], guard := none }) (v := .int .i64 q) rfl (by kernel_rfl) (by kernel_rfl) (by kernel_rfl) (fun _ _ _ h => hp _ _ _ _ h) (.inl ⟨by kernel_rfl, fun V hV => ?_⟩) hS ?_
    · have s0 := hV
      try obtain ⟨s1, s2⟩ := s0
      go_split_ands
      go_simp
      all_goals (first | assumption | skip)
    simp only [Act.put, List.setIfInBounds_toArray, List.set_cons_zero, List.set_cons_succ]
    refine wpAnyH_take (i := 17) (oi := { dst := some 43, op := Op.binOp BinOp.add 3 (Operand.tmp 29) (Operand.tmp 42) 3, type := 3, pos := "disk.go:70", after := #[{ on := 3, ground := Ground.data }, { on := 16, ground := Ground.data }], guard := none }) (v := .int .i64 (sf + q)) rfl (by kernel_rfl) (by kernel_rfl) (by kernel_rfl) (fun _ _ _ h => hp _ _ _ _ h) (.inl ⟨by kernel_rfl, fun V hV => ?_⟩) hS ?_
    · have s0 := hV
      try obtain ⟨s1, s2⟩ := s0
      go_split_ands
      go_simp
      all_goals (first | assumption | skip)
    simp only [Act.put, List.setIfInBounds_toArray, List.set_cons_zero, List.set_cons_succ]
    refine wpAnyH_take (i := 18) (oi := { dst := some 44, op := Op.nilCheck (Operand.tmp 26), type := 0, pos := "disk.go:70", after := #[{ on := 0, ground := Ground.data }, { on := 0, ground := Ground.phase }, { on := 1, ground := Ground.phase }, { on := 2, ground := Ground.phase }, { on := 3, ground := Ground.phase }, { on := 4, ground := Ground.phase }, { on := 5, ground := Ground.phase }, { on := 6, ground := Ground.phase }, { on := 7, ground := Ground.phase }, { on := 8, ground := Ground.phase }, { on := 9, ground := Ground.phase }, { on := 10, ground := Ground.phase }, { on := 11, ground := Ground.phase }, { on := 12, ground := Ground.phase }, { on := 13, ground := Ground.phase }, { on := 14, ground := Ground.phase }, { on := 15, ground := Ground.phase }, { on := 16, ground := Ground.phase }, { on := 17, ground := Ground.phase }], guard := none }) (v := .pointer (some ⟨gF, i * 3, none⟩)) rfl (by kernel_rfl) (by kernel_rfl) (by kernel_rfl) (fun _ _ _ h => hp _ _ _ _ h) (.inl ⟨by kernel_rfl, fun V hV => ?_⟩) hS ?_
    · have s0 := hV
      try obtain ⟨s1, s2⟩ := s0
      go_split_ands
      go_simp
      all_goals (first | assumption | skip)
    simp only [Act.put, List.setIfInBounds_toArray, List.set_cons_zero, List.set_cons_succ]
    refine wpAnyH_take (i := 19) (oi := { dst := some 45, op := Op.fieldAddr 75 (Operand.tmp 44) 2, type := 0, pos := "disk.go:70", after := #[{ on := 18, ground := Ground.data }, { on := 0, ground := Ground.phase }, { on := 1, ground := Ground.phase }, { on := 2, ground := Ground.phase }, { on := 3, ground := Ground.phase }, { on := 4, ground := Ground.phase }, { on := 5, ground := Ground.phase }, { on := 6, ground := Ground.phase }, { on := 7, ground := Ground.phase }, { on := 8, ground := Ground.phase }, { on := 9, ground := Ground.phase }, { on := 10, ground := Ground.phase }, { on := 11, ground := Ground.phase }, { on := 12, ground := Ground.phase }, { on := 13, ground := Ground.phase }, { on := 14, ground := Ground.phase }, { on := 15, ground := Ground.phase }, { on := 16, ground := Ground.phase }, { on := 17, ground := Ground.phase }], guard := none }) (v := .pointer (some ⟨gF, i * 3 + 2, none⟩)) rfl (by kernel_rfl) (by kernel_rfl) (by kernel_rfl) (fun _ _ _ h => hp _ _ _ _ h) (.inl ⟨by kernel_rfl, fun V hV => ?_⟩) hS ?_
    · have s0 := hV
      try obtain ⟨s1, s2⟩ := s0
      go_split_ands
      go_simp
      all_goals (first | assumption | skip)
    simp only [Act.put, List.setIfInBounds_toArray, List.set_cons_zero, List.set_cons_succ]
    refine wpAnyH_ready (rs := [20]) (by kernel_rfl) (by simp) ?_
    refine (AllReadyH.cons (o := { dst := none, op := Op.store 3 (Operand.tmp 45) (Operand.tmp 43), type := 0, pos := "disk.go:70", after := #[{ on := 19, ground := Ground.data }, { on := 17, ground := Ground.data }, { on := 0, ground := Ground.phase }, { on := 1, ground := Ground.phase }, { on := 2, ground := Ground.phase }, { on := 3, ground := Ground.phase }, { on := 4, ground := Ground.phase }, { on := 5, ground := Ground.phase }, { on := 6, ground := Ground.phase }, { on := 7, ground := Ground.phase }, { on := 8, ground := Ground.phase }, { on := 9, ground := Ground.phase }, { on := 10, ground := Ground.phase }, { on := 11, ground := Ground.phase }, { on := 12, ground := Ground.phase }, { on := 13, ground := Ground.phase }, { on := 14, ground := Ground.phase }, { on := 15, ground := Ground.phase }, { on := 16, ground := Ground.phase }, { on := 17, ground := Ground.phase }], guard := none }) rfl (fun K hK => ?_) AllReadyH.nil)
    go_simp
    refine hK.out _ _ (hcx _) (fun _ => ?_)
    clear hK K
    try simp only [Act.put, List.setIfInBounds_toArray, List.set_cons_zero, List.set_cons_succ]
    exact wpAnyH_done (Q := calmD Q) (by kernel_rfl) h _
  · go_simp
    refine hK.out _ _ hS (fun _ => ?_)
    clear hK K
    try simp only [Act.put, List.setIfInBounds_toArray, List.set_cons_zero, List.set_cons_succ]
    refine wpAnyH_take (i := 15) (oi := { dst := some 41, op := Op.binOp BinOp.sub 3 (Operand.tmp 36) (Operand.tmp 40) 3, type := 3, pos := "disk.go:70", after := #[{ on := 10, ground := Ground.data }, { on := 14, ground := Ground.data }], guard := none }) (v := .int .i64 ((nv : Int) - sf)) rfl (by kernel_rfl) (by kernel_rfl) (by kernel_rfl) (fun _ _ _ h => hp _ _ _ _ h) (.inl ⟨by kernel_rfl, fun V hV => ?_⟩) hS ?_
    · have s0 := hV
      try obtain ⟨s1, s2⟩ := s0
      go_split_ands
      go_simp
      all_goals (first | assumption | skip)
    simp only [Act.put, List.setIfInBounds_toArray, List.set_cons_zero, List.set_cons_succ]
    refine wpAnyH_take (i := 16) (oi := { dst := some 42, op := Op.call { callee := Callee.builtin Builtin.min, args := #[Operand.tmp 31, Operand.tmp 41], argTypes := #[3, 3] }, type := 3, pos := "disk.go:70", after := #[{ on := 5, ground := Ground.data }, { on := 15, ground := Ground.data }], guard := none }) (v := .int .i64 q) rfl (by kernel_rfl) (by kernel_rfl) (by kernel_rfl) (fun _ _ _ h => hp _ _ _ _ h) (.inl ⟨by kernel_rfl, fun V hV => ?_⟩) hS ?_
    · have s0 := hV
      try obtain ⟨s1, s2⟩ := s0
      go_split_ands
      go_simp
      all_goals (first | assumption | skip)
    simp only [Act.put, List.setIfInBounds_toArray, List.set_cons_zero, List.set_cons_succ]
    refine wpAnyH_ready (rs := [3]) (by kernel_rfl) (by simp) ?_
    refine (AllReadyH.cons (o := { dst := some 29, op := Op.load 3 (Operand.tmp 28), type := 3, pos := "disk.go:70", after := #[{ on := 2, ground := Ground.data }], guard := none }) rfl (fun K hK => ?_) AllReadyH.nil)
    go_simp
    refine hK.out _ _ hS (fun _ => ?_)
    clear hK K
    try simp only [Act.put, List.setIfInBounds_toArray, List.set_cons_zero, List.set_cons_succ]
    refine wpAnyH_take (i := 17) (oi := { dst := some 43, op := Op.binOp BinOp.add 3 (Operand.tmp 29) (Operand.tmp 42) 3, type := 3, pos := "disk.go:70", after := #[{ on := 3, ground := Ground.data }, { on := 16, ground := Ground.data }], guard := none }) (v := .int .i64 (sf + q)) rfl (by kernel_rfl) (by kernel_rfl) (by kernel_rfl) (fun _ _ _ h => hp _ _ _ _ h) (.inl ⟨by kernel_rfl, fun V hV => ?_⟩) hS ?_
    · have s0 := hV
      try obtain ⟨s1, s2⟩ := s0
      go_split_ands
      go_simp
      all_goals (first | assumption | skip)
    simp only [Act.put, List.setIfInBounds_toArray, List.set_cons_zero, List.set_cons_succ]
    refine wpAnyH_take (i := 18) (oi := { dst := some 44, op := Op.nilCheck (Operand.tmp 26), type := 0, pos := "disk.go:70", after := #[{ on := 0, ground := Ground.data }, { on := 0, ground := Ground.phase }, { on := 1, ground := Ground.phase }, { on := 2, ground := Ground.phase }, { on := 3, ground := Ground.phase }, { on := 4, ground := Ground.phase }, { on := 5, ground := Ground.phase }, { on := 6, ground := Ground.phase }, { on := 7, ground := Ground.phase }, { on := 8, ground := Ground.phase }, { on := 9, ground := Ground.phase }, { on := 10, ground := Ground.phase }, { on := 11, ground := Ground.phase }, { on := 12, ground := Ground.phase }, { on := 13, ground := Ground.phase }, { on := 14, ground := Ground.phase }, { on := 15, ground := Ground.phase }, { on := 16, ground := Ground.phase }, { on := 17, ground := Ground.phase }], guard := none }) (v := .pointer (some ⟨gF, i * 3, none⟩)) rfl (by kernel_rfl) (by kernel_rfl) (by kernel_rfl) (fun _ _ _ h => hp _ _ _ _ h) (.inl ⟨by kernel_rfl, fun V hV => ?_⟩) hS ?_
    · have s0 := hV
      try obtain ⟨s1, s2⟩ := s0
      go_split_ands
      go_simp
      all_goals (first | assumption | skip)
    simp only [Act.put, List.setIfInBounds_toArray, List.set_cons_zero, List.set_cons_succ]
    refine wpAnyH_take (i := 19) (oi := { dst := some 45, op := Op.fieldAddr 75 (Operand.tmp 44) 2, type := 0, pos := "disk.go:70", after := #[{ on := 18, ground := Ground.data }, { on := 0, ground := Ground.phase }, { on := 1, ground := Ground.phase }, { on := 2, ground := Ground.phase }, { on := 3, ground := Ground.phase }, { on := 4, ground := Ground.phase }, { on := 5, ground := Ground.phase }, { on := 6, ground := Ground.phase }, { on := 7, ground := Ground.phase }, { on := 8, ground := Ground.phase }, { on := 9, ground := Ground.phase }, { on := 10, ground := Ground.phase }, { on := 11, ground := Ground.phase }, { on := 12, ground := Ground.phase }, { on := 13, ground := Ground.phase }, { on := 14, ground := Ground.phase }, { on := 15, ground := Ground.phase }, { on := 16, ground := Ground.phase }, { on := 17, ground := Ground.phase }], guard := none }) (v := .pointer (some ⟨gF, i * 3 + 2, none⟩)) rfl (by kernel_rfl) (by kernel_rfl) (by kernel_rfl) (fun _ _ _ h => hp _ _ _ _ h) (.inl ⟨by kernel_rfl, fun V hV => ?_⟩) hS ?_
    · have s0 := hV
      try obtain ⟨s1, s2⟩ := s0
      go_split_ands
      go_simp
      all_goals (first | assumption | skip)
    simp only [Act.put, List.setIfInBounds_toArray, List.set_cons_zero, List.set_cons_succ]
    refine wpAnyH_ready (rs := [20]) (by kernel_rfl) (by simp) ?_
    refine (AllReadyH.cons (o := { dst := none, op := Op.store 3 (Operand.tmp 45) (Operand.tmp 43), type := 0, pos := "disk.go:70", after := #[{ on := 19, ground := Ground.data }, { on := 17, ground := Ground.data }, { on := 0, ground := Ground.phase }, { on := 1, ground := Ground.phase }, { on := 2, ground := Ground.phase }, { on := 3, ground := Ground.phase }, { on := 4, ground := Ground.phase }, { on := 5, ground := Ground.phase }, { on := 6, ground := Ground.phase }, { on := 7, ground := Ground.phase }, { on := 8, ground := Ground.phase }, { on := 9, ground := Ground.phase }, { on := 10, ground := Ground.phase }, { on := 11, ground := Ground.phase }, { on := 12, ground := Ground.phase }, { on := 13, ground := Ground.phase }, { on := 14, ground := Ground.phase }, { on := 15, ground := Ground.phase }, { on := 16, ground := Ground.phase }, { on := 17, ground := Ground.phase }], guard := none }) rfl (fun K hK => ?_) AllReadyH.nil)
    go_simp
    refine hK.out _ _ (hcx _) (fun _ => ?_)
    clear hK K
    try simp only [Act.put, List.setIfInBounds_toArray, List.set_cons_zero, List.set_cons_succ]
    exact wpAnyH_done (Q := calmD Q) (by kernel_rfl) h _

def regCr5SOps : Array Oper := #[{ dst := some 46, op := Op.move (Operand.tmp 5), type := 111, pos := "disk.go:71", after := #[], guard := none },
  { dst := some 47, op := Op.move (Operand.tmp 5), type := 111, pos := "disk.go:71", after := #[], guard := none },
  { dst := some 48, op := Op.nilCheck (Operand.tmp 47), type := 0, pos := "disk.go:71", after := #[{ on := 1, ground := Ground.data }], guard := none },
  { dst := some 49, op := Op.fieldAddr 75 (Operand.tmp 48) 1, type := 0, pos := "disk.go:71", after := #[{ on := 2, ground := Ground.data }], guard := none },
  { dst := some 50, op := Op.load 35 (Operand.tmp 49), type := 35, pos := "disk.go:71", after := #[{ on := 3, ground := Ground.data }], guard := none },
  { dst := some 51, op := Op.move (Operand.tmp 5), type := 111, pos := "disk.go:71", after := #[], guard := none },
  { dst := some 52, op := Op.nilCheck (Operand.tmp 51), type := 0, pos := "disk.go:71", after := #[{ on := 5, ground := Ground.data }], guard := none },
  { dst := some 53, op := Op.fieldAddr 75 (Operand.tmp 52) 2, type := 0, pos := "disk.go:71", after := #[{ on := 6, ground := Ground.data }], guard := none },
  { dst := some 54, op := Op.load 3 (Operand.tmp 53), type := 3, pos := "disk.go:71", after := #[{ on := 7, ground := Ground.data }], guard := none },
  { dst := some 55, op := Op.slice 35 (Operand.tmp 50) none (some (Operand.tmp 54)) none, type := 35, pos := "disk.go:71", after := #[{ on := 4, ground := Ground.data }, { on := 8, ground := Ground.data }], guard := none },
  { dst := some 56, op := Op.call { callee := Callee.builtin Builtin.append, args := #[Operand.const (Value.slice none 0 0), Operand.tmp 55], argTypes := #[35, 35] }, type := 35, pos := "disk.go:71", after := #[{ on := 9, ground := Ground.data }], guard := none },
  { dst := some 57, op := Op.nilCheck (Operand.tmp 46), type := 0, pos := "disk.go:71", after := #[{ on := 0, ground := Ground.data }, { on := 0, ground := Ground.phase }, { on := 1, ground := Ground.phase }, { on := 2, ground := Ground.phase }, { on := 3, ground := Ground.phase }, { on := 4, ground := Ground.phase }, { on := 5, ground := Ground.phase }, { on := 6, ground := Ground.phase }, { on := 7, ground := Ground.phase }, { on := 8, ground := Ground.phase }, { on := 9, ground := Ground.phase }, { on := 10, ground := Ground.phase }], guard := none },
  { dst := some 58, op := Op.fieldAddr 75 (Operand.tmp 57) 1, type := 0, pos := "disk.go:71", after := #[{ on := 11, ground := Ground.data }, { on := 0, ground := Ground.phase }, { on := 1, ground := Ground.phase }, { on := 2, ground := Ground.phase }, { on := 3, ground := Ground.phase }, { on := 4, ground := Ground.phase }, { on := 5, ground := Ground.phase }, { on := 6, ground := Ground.phase }, { on := 7, ground := Ground.phase }, { on := 8, ground := Ground.phase }, { on := 9, ground := Ground.phase }, { on := 10, ground := Ground.phase }], guard := none },
  { dst := none, op := Op.store 35 (Operand.tmp 58) (Operand.tmp 56), type := 0, pos := "disk.go:71", after := #[{ on := 12, ground := Ground.data }, { on := 10, ground := Ground.data }, { on := 10, ground := Ground.chain }, { on := 0, ground := Ground.phase }, { on := 1, ground := Ground.phase }, { on := 2, ground := Ground.phase }, { on := 3, ground := Ground.phase }, { on := 4, ground := Ground.phase }, { on := 5, ground := Ground.phase }, { on := 6, ground := Ground.phase }, { on := 7, ground := Ground.phase }, { on := 8, ground := Ground.phase }, { on := 9, ground := Ground.phase }, { on := 10, ground := Ground.phase }], guard := none }]
set_option maxRecDepth 100000 in
set_option maxHeartbeats 4000000 in
theorem regCr5S (Q : Exit → Act → World → Prop) (gF i : Nat) (zs : List Int) (cur : Array Value) (gv nv cv k : Nat) {t0 t1 t2 t3 t4 t6 t7 t8 t9 t10 t11 t12 t13 t14 t15 t16 t17 t18 t19 t20 t21 t22 t23 t24 t25 t26 t27 t28 t29 t30 t31 t32 t33 t34 t35 t36 t37 t38 t39 t40 t41 t42 t43 t44 t45 t46 t47 t48 t49 t50 t51 t52 t53 t54 t55 t56 t57 t58 t59 t60 t61 t62 t63 t64 t65 t66 t67 t68 t69 t70 t71 : Value} (W : World)
    (hk0 : (0 : Int) ≤ (k : Int)) (hkc : (k : Int) ≤ (cv : Int)) (hkb : k ≤ 1099511627776) (hl : zs.length = k) (hzl : Lies .u8 W.drew (some ⟨gv, 0, none⟩) zs) (hB : W.drew.heap[gF]? = some (.cells cur 75 (0, 0))) (hb : W.drew.cell? ⟨gF, i * 3 + 1, none⟩ = some (.slice (some ⟨gv, 0, none⟩) nv cv)) (hcv : ∀ V, W.drew.grownBy V (Value.slice none 0 0).ownBlock → V.cell? ⟨gF, i * 3 + 2, none⟩ = some (.int .i64 ((k : Nat) : Int))) (hcw : ∀ V, W.drew.grownBy V (Value.slice none 0 0).ownBlock → ∀ y, (V.setCell ⟨gF, i * 3 + 1, none⟩ y).cell? ⟨gF, i * 3 + 2, none⟩ = some (.int .i64 ((k : Nat) : Int)))
    (h : ∀ v' w', w'.ownsRow 0 5 1 v' k (zs.map (Value.int .u8)) → W.drew.grownBy w' (Value.slice none 0 0).ownBlock → (v'.ownBlock = (Value.slice none 0 0).ownBlock ∨ ∃ g, v'.ownBlock = some g ∧ W.heap.size ≤ g) → Q .normal { tmps := (t0 :: t1 :: t2 :: t3 :: t4 :: .pointer (some ⟨gF, i * 3, none⟩) :: t6 :: t7 :: t8 :: t9 :: t10 :: t11 :: t12 :: t13 :: t14 :: t15 :: t16 :: t17 :: t18 :: t19 :: t20 :: t21 :: t22 :: t23 :: t24 :: t25 :: t26 :: t27 :: t28 :: t29 :: t30 :: t31 :: t32 :: t33 :: t34 :: t35 :: t36 :: t37 :: t38 :: t39 :: t40 :: t41 :: t42 :: t43 :: t44 :: t45 :: .pointer (some ⟨gF, i * 3, none⟩) :: .pointer (some ⟨gF, i * 3, none⟩) :: .pointer (some ⟨gF, i * 3, none⟩) :: .pointer (some ⟨gF, i * 3 + 1, none⟩) :: .slice (some ⟨gv, 0, none⟩) nv cv :: .pointer (some ⟨gF, i * 3, none⟩) :: .pointer (some ⟨gF, i * 3, none⟩) :: .pointer (some ⟨gF, i * 3 + 2, none⟩) :: .int .i64 ((k : Nat) : Int) :: .slice (some ⟨gv, 0, none⟩) k cv :: v' :: .pointer (some ⟨gF, i * 3, none⟩) :: .pointer (some ⟨gF, i * 3 + 1, none⟩) :: t59 :: t60 :: t61 :: t62 :: t63 :: t64 :: t65 :: t66 :: t67 :: t68 :: t69 :: t70 :: t71 :: []).toArray, defers := [] } (w'.setCell ⟨gF, i * 3 + 1, none⟩ v')) :
    (Code.region 5 regCr5SOps true).wp Tryz.prog Q { tmps := (t0 :: t1 :: t2 :: t3 :: t4 :: .pointer (some ⟨gF, i * 3, none⟩) :: t6 :: t7 :: t8 :: t9 :: t10 :: t11 :: t12 :: t13 :: t14 :: t15 :: t16 :: t17 :: t18 :: t19 :: t20 :: t21 :: t22 :: t23 :: t24 :: t25 :: t26 :: t27 :: t28 :: t29 :: t30 :: t31 :: t32 :: t33 :: t34 :: t35 :: t36 :: t37 :: t38 :: t39 :: t40 :: t41 :: t42 :: t43 :: t44 :: t45 :: t46 :: t47 :: t48 :: t49 :: t50 :: t51 :: t52 :: t53 :: t54 :: t55 :: t56 :: t57 :: t58 :: t59 :: t60 :: t61 :: t62 :: t63 :: t64 :: t65 :: t66 :: t67 :: t68 :: t69 :: t70 :: t71 :: []).toArray, defers := [] } W := by
  refine Code.wp_mono (fun _ _ _ h => calmD_le h) ?_
  have hp : ∀ c a a' w, calmD Q (.panic c) a w → calmD Q (.panic c) a' w := fun _ _ _ _ h => h
  refine wp_region_held (S := fun V => V.cell? ⟨gF, i * 3 + 2, none⟩ = some (.int .i64 ((k : Nat) : Int))) (by kernel_rfl) ?_
  change wpAnyH _ _ _ _ _ _ _ _ W.drew
  have hS := hcv W.drew ⟨rfl, rfl, rfl, Nat.le_refl _, fun _ _ _ => rfl⟩
  refine wpAnyH_take (i := 0) (oi := { dst := some 46, op := Op.move (Operand.tmp 5), type := 111, pos := "disk.go:71", after := #[], guard := none }) (v := .pointer (some ⟨gF, i * 3, none⟩)) rfl (by kernel_rfl) (by kernel_rfl) (by kernel_rfl) (fun _ _ _ h => hp _ _ _ _ h) (.inl ⟨by kernel_rfl, fun V hV => ?_⟩) hS ?_
  · have s0 := hV
    try obtain ⟨s1, s2⟩ := s0
    go_split_ands
    go_simp
    all_goals (first | assumption | skip)
  simp only [Act.put, List.setIfInBounds_toArray, List.set_cons_zero, List.set_cons_succ]
  refine wpAnyH_take (i := 1) (oi := { dst := some 47, op := Op.move (Operand.tmp 5), type := 111, pos := "disk.go:71", after := #[], guard := none }) (v := .pointer (some ⟨gF, i * 3, none⟩)) rfl (by kernel_rfl) (by kernel_rfl) (by kernel_rfl) (fun _ _ _ h => hp _ _ _ _ h) (.inl ⟨by kernel_rfl, fun V hV => ?_⟩) hS ?_
  · have s0 := hV
    try obtain ⟨s1, s2⟩ := s0
    go_split_ands
    go_simp
    all_goals (first | assumption | skip)
  simp only [Act.put, List.setIfInBounds_toArray, List.set_cons_zero, List.set_cons_succ]
  refine wpAnyH_take (i := 2) (oi := { dst := some 48, op := Op.nilCheck (Operand.tmp 47), type := 0, pos := "disk.go:71", after := #[{ on := 1, ground := Ground.data }], guard := none }) (v := .pointer (some ⟨gF, i * 3, none⟩)) rfl (by kernel_rfl) (by kernel_rfl) (by kernel_rfl) (fun _ _ _ h => hp _ _ _ _ h) (.inl ⟨by kernel_rfl, fun V hV => ?_⟩) hS ?_
  · have s0 := hV
    try obtain ⟨s1, s2⟩ := s0
    go_split_ands
    go_simp
    all_goals (first | assumption | skip)
  simp only [Act.put, List.setIfInBounds_toArray, List.set_cons_zero, List.set_cons_succ]
  refine wpAnyH_take (i := 3) (oi := { dst := some 49, op := Op.fieldAddr 75 (Operand.tmp 48) 1, type := 0, pos := "disk.go:71", after := #[{ on := 2, ground := Ground.data }], guard := none }) (v := .pointer (some ⟨gF, i * 3 + 1, none⟩)) rfl (by kernel_rfl) (by kernel_rfl) (by kernel_rfl) (fun _ _ _ h => hp _ _ _ _ h) (.inl ⟨by kernel_rfl, fun V hV => ?_⟩) hS ?_
  · have s0 := hV
    try obtain ⟨s1, s2⟩ := s0
    go_split_ands
    go_simp
    all_goals (first | assumption | skip)
  simp only [Act.put, List.setIfInBounds_toArray, List.set_cons_zero, List.set_cons_succ]
  refine wpAnyH_take (i := 5) (oi := { dst := some 51, op := Op.move (Operand.tmp 5), type := 111, pos := "disk.go:71", after := #[], guard := none }) (v := .pointer (some ⟨gF, i * 3, none⟩)) rfl (by kernel_rfl) (by kernel_rfl) (by kernel_rfl) (fun _ _ _ h => hp _ _ _ _ h) (.inl ⟨by kernel_rfl, fun V hV => ?_⟩) hS ?_
  · have s0 := hV
    try obtain ⟨s1, s2⟩ := s0
    go_split_ands
    go_simp
    all_goals (first | assumption | skip)
  simp only [Act.put, List.setIfInBounds_toArray, List.set_cons_zero, List.set_cons_succ]
  refine wpAnyH_take (i := 6) (oi := { dst := some 52, op := Op.nilCheck (Operand.tmp 51), type := 0, pos := "disk.go:71", after := #[{ on := 5, ground := Ground.data }], guard := none }) (v := .pointer (some ⟨gF, i * 3, none⟩)) rfl (by kernel_rfl) (by kernel_rfl) (by kernel_rfl) (fun _ _ _ h => hp _ _ _ _ h) (.inl ⟨by kernel_rfl, fun V hV => ?_⟩) hS ?_
  · have s0 := hV
    try obtain ⟨s1, s2⟩ := s0
    go_split_ands
    go_simp
    all_goals (first | assumption | skip)
  simp only [Act.put, List.setIfInBounds_toArray, List.set_cons_zero, List.set_cons_succ]
  refine wpAnyH_take (i := 7) (oi := { dst := some 53, op := Op.fieldAddr 75 (Operand.tmp 52) 2, type := 0, pos := "disk.go:71", after := #[{ on := 6, ground := Ground.data }], guard := none }) (v := .pointer (some ⟨gF, i * 3 + 2, none⟩)) rfl (by kernel_rfl) (by kernel_rfl) (by kernel_rfl) (fun _ _ _ h => hp _ _ _ _ h) (.inl ⟨by kernel_rfl, fun V hV => ?_⟩) hS ?_
  · have s0 := hV
    try obtain ⟨s1, s2⟩ := s0
    go_split_ands
    go_simp
    all_goals (first | assumption | skip)
  simp only [Act.put, List.setIfInBounds_toArray, List.set_cons_zero, List.set_cons_succ]
  refine wpAnyH_take (i := 8) (oi := { dst := some 54, op := Op.load 3 (Operand.tmp 53), type := 3, pos := "disk.go:71", after := #[{ on := 7, ground := Ground.data }], guard := none }) (v := .int .i64 ((k : Nat) : Int)) rfl (by kernel_rfl) (by kernel_rfl) (by kernel_rfl) (fun _ _ _ h => hp _ _ _ _ h) (.inl ⟨by kernel_rfl, fun V hV => ?_⟩) hS ?_
  · have s0 := hV
    try obtain ⟨s1, s2⟩ := s0
    go_split_ands
    go_simp
    all_goals (first | assumption | skip)
  simp only [Act.put, List.setIfInBounds_toArray, List.set_cons_zero, List.set_cons_succ]
  refine wpAnyH_ready (rs := [4]) (by kernel_rfl) (by simp) ?_
  refine (AllReadyH.cons (o := { dst := some 50, op := Op.load 35 (Operand.tmp 49), type := 35, pos := "disk.go:71", after := #[{ on := 3, ground := Ground.data }], guard := none }) rfl (fun K hK => ?_) AllReadyH.nil)
  go_simp
  refine hK.out _ _ hS (fun _ => ?_)
  clear hK K
  try simp only [Act.put, List.setIfInBounds_toArray, List.set_cons_zero, List.set_cons_succ]
  refine wpAnyH_take (i := 9) (oi := { dst := some 55, op := Op.slice 35 (Operand.tmp 50) none (some (Operand.tmp 54)) none, type := 35, pos := "disk.go:71", after := #[{ on := 4, ground := Ground.data }, { on := 8, ground := Ground.data }], guard := none }) (v := .slice (some ⟨gv, 0, none⟩) k cv) rfl (by kernel_rfl) (by kernel_rfl) (by kernel_rfl) (fun _ _ _ h => hp _ _ _ _ h) (.inl ⟨by kernel_rfl, fun V hV => ?_⟩) hS ?_
  · have s0 := hV
    try obtain ⟨s1, s2⟩ := s0
    go_split_ands
    go_simp
    all_goals (first | assumption | skip)
  simp only [Act.put, List.setIfInBounds_toArray, List.set_cons_zero, List.set_cons_succ]
  refine wpAnyH_all (rs := [10]) (by kernel_rfl) (by simp) ?_
  intro i hiX
  obtain rfl : i = 10 := by simpa using hiX
  refine appB_opD (j := 10) (o := { dst := some 56, op := Op.call { callee := Callee.builtin Builtin.append, args := #[Operand.const (Value.slice none 0 0), Operand.tmp 55], argTypes := #[35, 35] }, type := 35, pos := "disk.go:71", after := #[{ on := 9, ground := Ground.data }], guard := none }) rfl rfl (.const (.slice none 0 0)) (.tmp 55) rfl (.slice none 0 0) 0 [] (by simp [Act.eval]) (w := W.drew) (World.ownsRow_nil _ _ _ _) (some ⟨gv, 0, none⟩) k cv zs (by simp [Act.eval]) hl hzl (by simp) (by omega) ?_
  intro v' w' r1 r2 r3
  rw [Nat.zero_add] at r1
  have hS2 := hcv w' r2
  refine ⟨hS2, ?_⟩
  have hfz : w'.frozen? ⟨gF, i * 3 + 1, none⟩ = false := frozen_of_row _ _ (i * 3 + 1) _ _ ((r2.block gF (Array.getElem?_eq_some_iff.1 hB).1 (by simp [Value.ownBlock])).trans hB)
  have hbv : w'.cell? ⟨gF, i * 3 + 1, none⟩ = some (.slice (some ⟨gv, 0, none⟩) nv cv) := (World.cell?_of_block (a := ⟨gF, i * 3 + 1, none⟩) (r2.block gF (Array.getElem?_eq_some_iff.1 hB).1 (by simp [Value.ownBlock]))).trans hb
  have hfin := h v' w' (by simpa using r1) r2 (r3.elim (fun e => .inl e) (fun e => .inr ⟨_, e, by simp⟩))
  obtain ⟨a1, n1, rfl⟩ := d_shape r1
  try simp only [Act.put, List.setIfInBounds_toArray, List.set_cons_zero, List.set_cons_succ]
  refine wpAnyH_take (i := 11) (oi := { dst := some 57, op := Op.nilCheck (Operand.tmp 46), type := 0, pos := "disk.go:71", after := #[{ on := 0, ground := Ground.data }, { on := 0, ground := Ground.phase }, { on := 1, ground := Ground.phase }, { on := 2, ground := Ground.phase }, { on := 3, ground := Ground.phase }, { on := 4, ground := Ground.phase }, { on := 5, ground := Ground.phase }, { on := 6, ground := Ground.phase }, { on := 7, ground := Ground.phase }, { on := 8, ground := Ground.phase }, { on := 9, ground := Ground.phase }, { on := 10, ground := Ground.phase }], guard := none }) (v := .pointer (some ⟨gF, i * 3, none⟩)) rfl (by kernel_rfl) (by kernel_rfl) (by kernel_rfl) (fun _ _ _ h => hp _ _ _ _ h) (.inl ⟨by kernel_rfl, fun V hV => ?_⟩) hS2 ?_
  · have s0 := hV
    try obtain ⟨s1, s2⟩ := s0
    go_split_ands
    go_simp
    all_goals (first | assumption | skip)
  simp only [Act.put, List.setIfInBounds_toArray, List.set_cons_zero, List.set_cons_succ]
  refine wpAnyH_take (i := 12) (oi := { dst := some 58, op := Op.fieldAddr 75 (Operand.tmp 57) 1, type := 0, pos := "disk.go:71", after := #[{ on := 11, ground := Ground.data }, { on := 0, ground := Ground.phase }, { on := 1, ground := Ground.phase }, { on := 2, ground := Ground.phase }, { on := 3, ground := Ground.phase }, { on := 4, ground := Ground.phase }, { on := 5, ground := Ground.phase }, { on := 6, ground := Ground.phase }, { on := 7, ground := Ground.phase }, { on := 8, ground := Ground.phase }, { on := 9, ground := Ground.phase }, { on := 10, ground := Ground.phase }], guard := none }) (v := .pointer (some ⟨gF, i * 3 + 1, none⟩)) rfl (by kernel_rfl) (by kernel_rfl) (by kernel_rfl) (fun _ _ _ h => hp _ _ _ _ h) (.inl ⟨by kernel_rfl, fun V hV => ?_⟩) hS2 ?_
  · have s0 := hV
    try obtain ⟨s1, s2⟩ := s0
    go_split_ands
    go_simp
    all_goals (first | assumption | skip)
  simp only [Act.put, List.setIfInBounds_toArray, List.set_cons_zero, List.set_cons_succ]
  refine wpAnyH_ready (rs := [13]) (by kernel_rfl) (by simp) ?_
  refine (AllReadyH.cons (o := { dst := none, op := Op.store 35 (Operand.tmp 58) (Operand.tmp 56), type := 0, pos := "disk.go:71", after := #[{ on := 12, ground := Ground.data }, { on := 10, ground := Ground.data }, { on := 10, ground := Ground.chain }, { on := 0, ground := Ground.phase }, { on := 1, ground := Ground.phase }, { on := 2, ground := Ground.phase }, { on := 3, ground := Ground.phase }, { on := 4, ground := Ground.phase }, { on := 5, ground := Ground.phase }, { on := 6, ground := Ground.phase }, { on := 7, ground := Ground.phase }, { on := 8, ground := Ground.phase }, { on := 9, ground := Ground.phase }, { on := 10, ground := Ground.phase }], guard := none }) rfl (fun K hK => ?_) AllReadyH.nil)
  go_simp
  refine hK.out _ _ (hcw w' r2 _) (fun _ => ?_)
  clear hK K
  try simp only [Act.put, List.setIfInBounds_toArray, List.set_cons_zero, List.set_cons_succ]
  exact wpAnyH_done (Q := calmD Q) (by kernel_rfl) hfin _

def regCr5NOps : Array Oper := #[{ dst := some 46, op := Op.move (Operand.tmp 5), type := 111, pos := "disk.go:71", after := #[], guard := none },
  { dst := some 47, op := Op.move (Operand.tmp 5), type := 111, pos := "disk.go:71", after := #[], guard := none },
  { dst := some 48, op := Op.nilCheck (Operand.tmp 47), type := 0, pos := "disk.go:71", after := #[{ on := 1, ground := Ground.data }], guard := none },
  { dst := some 49, op := Op.fieldAddr 75 (Operand.tmp 48) 1, type := 0, pos := "disk.go:71", after := #[{ on := 2, ground := Ground.data }], guard := none },
  { dst := some 50, op := Op.load 35 (Operand.tmp 49), type := 35, pos := "disk.go:71", after := #[{ on := 3, ground := Ground.data }], guard := none },
  { dst := some 51, op := Op.move (Operand.tmp 5), type := 111, pos := "disk.go:71", after := #[], guard := none },
  { dst := some 52, op := Op.nilCheck (Operand.tmp 51), type := 0, pos := "disk.go:71", after := #[{ on := 5, ground := Ground.data }], guard := none },
  { dst := some 53, op := Op.fieldAddr 75 (Operand.tmp 52) 2, type := 0, pos := "disk.go:71", after := #[{ on := 6, ground := Ground.data }], guard := none },
  { dst := some 54, op := Op.load 3 (Operand.tmp 53), type := 3, pos := "disk.go:71", after := #[{ on := 7, ground := Ground.data }], guard := none },
  { dst := some 55, op := Op.slice 35 (Operand.tmp 50) none (some (Operand.tmp 54)) none, type := 35, pos := "disk.go:71", after := #[{ on := 4, ground := Ground.data }, { on := 8, ground := Ground.data }], guard := none },
  { dst := some 56, op := Op.call { callee := Callee.builtin Builtin.append, args := #[Operand.const (Value.slice none 0 0), Operand.tmp 55], argTypes := #[35, 35] }, type := 35, pos := "disk.go:71", after := #[{ on := 9, ground := Ground.data }], guard := none },
  { dst := some 57, op := Op.nilCheck (Operand.tmp 46), type := 0, pos := "disk.go:71", after := #[{ on := 0, ground := Ground.data }, { on := 0, ground := Ground.phase }, { on := 1, ground := Ground.phase }, { on := 2, ground := Ground.phase }, { on := 3, ground := Ground.phase }, { on := 4, ground := Ground.phase }, { on := 5, ground := Ground.phase }, { on := 6, ground := Ground.phase }, { on := 7, ground := Ground.phase }, { on := 8, ground := Ground.phase }, { on := 9, ground := Ground.phase }, { on := 10, ground := Ground.phase }], guard := none },
  { dst := some 58, op := Op.fieldAddr 75 (Operand.tmp 57) 1, type := 0, pos := "disk.go:71", after := #[{ on := 11, ground := Ground.data }, { on := 0, ground := Ground.phase }, { on := 1, ground := Ground.phase }, { on := 2, ground := Ground.phase }, { on := 3, ground := Ground.phase }, { on := 4, ground := Ground.phase }, { on := 5, ground := Ground.phase }, { on := 6, ground := Ground.phase }, { on := 7, ground := Ground.phase }, { on := 8, ground := Ground.phase }, { on := 9, ground := Ground.phase }, { on := 10, ground := Ground.phase }], guard := none },
  { dst := none, op := Op.store 35 (Operand.tmp 58) (Operand.tmp 56), type := 0, pos := "disk.go:71", after := #[{ on := 12, ground := Ground.data }, { on := 10, ground := Ground.data }, { on := 10, ground := Ground.chain }, { on := 0, ground := Ground.phase }, { on := 1, ground := Ground.phase }, { on := 2, ground := Ground.phase }, { on := 3, ground := Ground.phase }, { on := 4, ground := Ground.phase }, { on := 5, ground := Ground.phase }, { on := 6, ground := Ground.phase }, { on := 7, ground := Ground.phase }, { on := 8, ground := Ground.phase }, { on := 9, ground := Ground.phase }, { on := 10, ground := Ground.phase }], guard := none }]
set_option maxRecDepth 100000 in
set_option maxHeartbeats 4000000 in
theorem regCr5N (Q : Exit → Act → World → Prop) (gF i : Nat) (zs : List Int) (cur : Array Value) {t0 t1 t2 t3 t4 t6 t7 t8 t9 t10 t11 t12 t13 t14 t15 t16 t17 t18 t19 t20 t21 t22 t23 t24 t25 t26 t27 t28 t29 t30 t31 t32 t33 t34 t35 t36 t37 t38 t39 t40 t41 t42 t43 t44 t45 t46 t47 t48 t49 t50 t51 t52 t53 t54 t55 t56 t57 t58 t59 t60 t61 t62 t63 t64 t65 t66 t67 t68 t69 t70 t71 : Value} (W : World)
    (hl : zs.length = 0) (hzl : Lies .u8 W.drew none zs) (hB : W.drew.heap[gF]? = some (.cells cur 75 (0, 0))) (hb : W.drew.cell? ⟨gF, i * 3 + 1, none⟩ = some (.slice none 0 0)) (hcv : ∀ V, W.drew.grownBy V (Value.slice none 0 0).ownBlock → V.cell? ⟨gF, i * 3 + 2, none⟩ = some (.int .i64 0)) (hcw : ∀ V, W.drew.grownBy V (Value.slice none 0 0).ownBlock → ∀ y, (V.setCell ⟨gF, i * 3 + 1, none⟩ y).cell? ⟨gF, i * 3 + 2, none⟩ = some (.int .i64 0))
    (h : ∀ v' w', w'.ownsRow 0 5 1 v' 0 (zs.map (Value.int .u8)) → W.drew.grownBy w' (Value.slice none 0 0).ownBlock → (v'.ownBlock = (Value.slice none 0 0).ownBlock ∨ ∃ g, v'.ownBlock = some g ∧ W.heap.size ≤ g) → Q .normal { tmps := (t0 :: t1 :: t2 :: t3 :: t4 :: .pointer (some ⟨gF, i * 3, none⟩) :: t6 :: t7 :: t8 :: t9 :: t10 :: t11 :: t12 :: t13 :: t14 :: t15 :: t16 :: t17 :: t18 :: t19 :: t20 :: t21 :: t22 :: t23 :: t24 :: t25 :: t26 :: t27 :: t28 :: t29 :: t30 :: t31 :: t32 :: t33 :: t34 :: t35 :: t36 :: t37 :: t38 :: t39 :: t40 :: t41 :: t42 :: t43 :: t44 :: t45 :: .pointer (some ⟨gF, i * 3, none⟩) :: .pointer (some ⟨gF, i * 3, none⟩) :: .pointer (some ⟨gF, i * 3, none⟩) :: .pointer (some ⟨gF, i * 3 + 1, none⟩) :: .slice none 0 0 :: .pointer (some ⟨gF, i * 3, none⟩) :: .pointer (some ⟨gF, i * 3, none⟩) :: .pointer (some ⟨gF, i * 3 + 2, none⟩) :: .int .i64 0 :: .slice none 0 0 :: v' :: .pointer (some ⟨gF, i * 3, none⟩) :: .pointer (some ⟨gF, i * 3 + 1, none⟩) :: t59 :: t60 :: t61 :: t62 :: t63 :: t64 :: t65 :: t66 :: t67 :: t68 :: t69 :: t70 :: t71 :: []).toArray, defers := [] } (w'.setCell ⟨gF, i * 3 + 1, none⟩ v')) :
    (Code.region 5 regCr5NOps true).wp Tryz.prog Q { tmps := (t0 :: t1 :: t2 :: t3 :: t4 :: .pointer (some ⟨gF, i * 3, none⟩) :: t6 :: t7 :: t8 :: t9 :: t10 :: t11 :: t12 :: t13 :: t14 :: t15 :: t16 :: t17 :: t18 :: t19 :: t20 :: t21 :: t22 :: t23 :: t24 :: t25 :: t26 :: t27 :: t28 :: t29 :: t30 :: t31 :: t32 :: t33 :: t34 :: t35 :: t36 :: t37 :: t38 :: t39 :: t40 :: t41 :: t42 :: t43 :: t44 :: t45 :: t46 :: t47 :: t48 :: t49 :: t50 :: t51 :: t52 :: t53 :: t54 :: t55 :: t56 :: t57 :: t58 :: t59 :: t60 :: t61 :: t62 :: t63 :: t64 :: t65 :: t66 :: t67 :: t68 :: t69 :: t70 :: t71 :: []).toArray, defers := [] } W := by
  refine Code.wp_mono (fun _ _ _ h => calmD_le h) ?_
  have hp : ∀ c a a' w, calmD Q (.panic c) a w → calmD Q (.panic c) a' w := fun _ _ _ _ h => h
  refine wp_region_held (S := fun V => V.cell? ⟨gF, i * 3 + 2, none⟩ = some (.int .i64 0)) (by kernel_rfl) ?_
  change wpAnyH _ _ _ _ _ _ _ _ W.drew
  have hS := hcv W.drew ⟨rfl, rfl, rfl, Nat.le_refl _, fun _ _ _ => rfl⟩
  refine wpAnyH_take (i := 0) (oi := { dst := some 46, op := Op.move (Operand.tmp 5), type := 111, pos := "disk.go:71", after := #[], guard := none }) (v := .pointer (some ⟨gF, i * 3, none⟩)) rfl (by kernel_rfl) (by kernel_rfl) (by kernel_rfl) (fun _ _ _ h => hp _ _ _ _ h) (.inl ⟨by kernel_rfl, fun V hV => ?_⟩) hS ?_
  · have s0 := hV
    try obtain ⟨s1, s2⟩ := s0
    go_split_ands
    go_simp
    all_goals (first | assumption | skip)
  simp only [Act.put, List.setIfInBounds_toArray, List.set_cons_zero, List.set_cons_succ]
  refine wpAnyH_take (i := 1) (oi := { dst := some 47, op := Op.move (Operand.tmp 5), type := 111, pos := "disk.go:71", after := #[], guard := none }) (v := .pointer (some ⟨gF, i * 3, none⟩)) rfl (by kernel_rfl) (by kernel_rfl) (by kernel_rfl) (fun _ _ _ h => hp _ _ _ _ h) (.inl ⟨by kernel_rfl, fun V hV => ?_⟩) hS ?_
  · have s0 := hV
    try obtain ⟨s1, s2⟩ := s0
    go_split_ands
    go_simp
    all_goals (first | assumption | skip)
  simp only [Act.put, List.setIfInBounds_toArray, List.set_cons_zero, List.set_cons_succ]
  refine wpAnyH_take (i := 2) (oi := { dst := some 48, op := Op.nilCheck (Operand.tmp 47), type := 0, pos := "disk.go:71", after := #[{ on := 1, ground := Ground.data }], guard := none }) (v := .pointer (some ⟨gF, i * 3, none⟩)) rfl (by kernel_rfl) (by kernel_rfl) (by kernel_rfl) (fun _ _ _ h => hp _ _ _ _ h) (.inl ⟨by kernel_rfl, fun V hV => ?_⟩) hS ?_
  · have s0 := hV
    try obtain ⟨s1, s2⟩ := s0
    go_split_ands
    go_simp
    all_goals (first | assumption | skip)
  simp only [Act.put, List.setIfInBounds_toArray, List.set_cons_zero, List.set_cons_succ]
  refine wpAnyH_take (i := 3) (oi := { dst := some 49, op := Op.fieldAddr 75 (Operand.tmp 48) 1, type := 0, pos := "disk.go:71", after := #[{ on := 2, ground := Ground.data }], guard := none }) (v := .pointer (some ⟨gF, i * 3 + 1, none⟩)) rfl (by kernel_rfl) (by kernel_rfl) (by kernel_rfl) (fun _ _ _ h => hp _ _ _ _ h) (.inl ⟨by kernel_rfl, fun V hV => ?_⟩) hS ?_
  · have s0 := hV
    try obtain ⟨s1, s2⟩ := s0
    go_split_ands
    go_simp
    all_goals (first | assumption | skip)
  simp only [Act.put, List.setIfInBounds_toArray, List.set_cons_zero, List.set_cons_succ]
  refine wpAnyH_take (i := 5) (oi := { dst := some 51, op := Op.move (Operand.tmp 5), type := 111, pos := "disk.go:71", after := #[], guard := none }) (v := .pointer (some ⟨gF, i * 3, none⟩)) rfl (by kernel_rfl) (by kernel_rfl) (by kernel_rfl) (fun _ _ _ h => hp _ _ _ _ h) (.inl ⟨by kernel_rfl, fun V hV => ?_⟩) hS ?_
  · have s0 := hV
    try obtain ⟨s1, s2⟩ := s0
    go_split_ands
    go_simp
    all_goals (first | assumption | skip)
  simp only [Act.put, List.setIfInBounds_toArray, List.set_cons_zero, List.set_cons_succ]
  refine wpAnyH_take (i := 6) (oi := { dst := some 52, op := Op.nilCheck (Operand.tmp 51), type := 0, pos := "disk.go:71", after := #[{ on := 5, ground := Ground.data }], guard := none }) (v := .pointer (some ⟨gF, i * 3, none⟩)) rfl (by kernel_rfl) (by kernel_rfl) (by kernel_rfl) (fun _ _ _ h => hp _ _ _ _ h) (.inl ⟨by kernel_rfl, fun V hV => ?_⟩) hS ?_
  · have s0 := hV
    try obtain ⟨s1, s2⟩ := s0
    go_split_ands
    go_simp
    all_goals (first | assumption | skip)
  simp only [Act.put, List.setIfInBounds_toArray, List.set_cons_zero, List.set_cons_succ]
  refine wpAnyH_take (i := 7) (oi := { dst := some 53, op := Op.fieldAddr 75 (Operand.tmp 52) 2, type := 0, pos := "disk.go:71", after := #[{ on := 6, ground := Ground.data }], guard := none }) (v := .pointer (some ⟨gF, i * 3 + 2, none⟩)) rfl (by kernel_rfl) (by kernel_rfl) (by kernel_rfl) (fun _ _ _ h => hp _ _ _ _ h) (.inl ⟨by kernel_rfl, fun V hV => ?_⟩) hS ?_
  · have s0 := hV
    try obtain ⟨s1, s2⟩ := s0
    go_split_ands
    go_simp
    all_goals (first | assumption | skip)
  simp only [Act.put, List.setIfInBounds_toArray, List.set_cons_zero, List.set_cons_succ]
  refine wpAnyH_take (i := 8) (oi := { dst := some 54, op := Op.load 3 (Operand.tmp 53), type := 3, pos := "disk.go:71", after := #[{ on := 7, ground := Ground.data }], guard := none }) (v := .int .i64 0) rfl (by kernel_rfl) (by kernel_rfl) (by kernel_rfl) (fun _ _ _ h => hp _ _ _ _ h) (.inl ⟨by kernel_rfl, fun V hV => ?_⟩) hS ?_
  · have s0 := hV
    try obtain ⟨s1, s2⟩ := s0
    go_split_ands
    go_simp
    all_goals (first | assumption | skip)
  simp only [Act.put, List.setIfInBounds_toArray, List.set_cons_zero, List.set_cons_succ]
  refine wpAnyH_ready (rs := [4]) (by kernel_rfl) (by simp) ?_
  refine (AllReadyH.cons (o := { dst := some 50, op := Op.load 35 (Operand.tmp 49), type := 35, pos := "disk.go:71", after := #[{ on := 3, ground := Ground.data }], guard := none }) rfl (fun K hK => ?_) AllReadyH.nil)
  go_simp
  refine hK.out _ _ hS (fun _ => ?_)
  clear hK K
  try simp only [Act.put, List.setIfInBounds_toArray, List.set_cons_zero, List.set_cons_succ]
  refine wpAnyH_take (i := 9) (oi := { dst := some 55, op := Op.slice 35 (Operand.tmp 50) none (some (Operand.tmp 54)) none, type := 35, pos := "disk.go:71", after := #[{ on := 4, ground := Ground.data }, { on := 8, ground := Ground.data }], guard := none }) (v := .slice none 0 0) rfl (by kernel_rfl) (by kernel_rfl) (by kernel_rfl) (fun _ _ _ h => hp _ _ _ _ h) (.inl ⟨by kernel_rfl, fun V hV => ?_⟩) hS ?_
  · have s0 := hV
    try obtain ⟨s1, s2⟩ := s0
    go_split_ands
    go_simp
    all_goals (first | assumption | skip)
  simp only [Act.put, List.setIfInBounds_toArray, List.set_cons_zero, List.set_cons_succ]
  refine wpAnyH_all (rs := [10]) (by kernel_rfl) (by simp) ?_
  intro i hiX
  obtain rfl : i = 10 := by simpa using hiX
  refine appB_opD (j := 10) (o := { dst := some 56, op := Op.call { callee := Callee.builtin Builtin.append, args := #[Operand.const (Value.slice none 0 0), Operand.tmp 55], argTypes := #[35, 35] }, type := 35, pos := "disk.go:71", after := #[{ on := 9, ground := Ground.data }], guard := none }) rfl rfl (.const (.slice none 0 0)) (.tmp 55) rfl (.slice none 0 0) 0 [] (by simp [Act.eval]) (w := W.drew) (World.ownsRow_nil _ _ _ _) none 0 0 zs (by simp [Act.eval]) hl hzl (by simp) (by omega) ?_
  intro v' w' r1 r2 r3
  rw [Nat.zero_add] at r1
  have hS2 := hcv w' r2
  refine ⟨hS2, ?_⟩
  have hfz : w'.frozen? ⟨gF, i * 3 + 1, none⟩ = false := frozen_of_row _ _ (i * 3 + 1) _ _ ((r2.block gF (Array.getElem?_eq_some_iff.1 hB).1 (by simp [Value.ownBlock])).trans hB)
  have hbv : w'.cell? ⟨gF, i * 3 + 1, none⟩ = some (.slice none 0 0) := (World.cell?_of_block (a := ⟨gF, i * 3 + 1, none⟩) (r2.block gF (Array.getElem?_eq_some_iff.1 hB).1 (by simp [Value.ownBlock]))).trans hb
  have hfin := h v' w' (by simpa using r1) r2 (r3.elim (fun e => .inl e) (fun e => .inr ⟨_, e, by simp⟩))
  obtain ⟨a1, n1, rfl⟩ := d_shape r1
  try simp only [Act.put, List.setIfInBounds_toArray, List.set_cons_zero, List.set_cons_succ]
  refine wpAnyH_take (i := 11) (oi := { dst := some 57, op := Op.nilCheck (Operand.tmp 46), type := 0, pos := "disk.go:71", after := #[{ on := 0, ground := Ground.data }, { on := 0, ground := Ground.phase }, { on := 1, ground := Ground.phase }, { on := 2, ground := Ground.phase }, { on := 3, ground := Ground.phase }, { on := 4, ground := Ground.phase }, { on := 5, ground := Ground.phase }, { on := 6, ground := Ground.phase }, { on := 7, ground := Ground.phase }, { on := 8, ground := Ground.phase }, { on := 9, ground := Ground.phase }, { on := 10, ground := Ground.phase }], guard := none }) (v := .pointer (some ⟨gF, i * 3, none⟩)) rfl (by kernel_rfl) (by kernel_rfl) (by kernel_rfl) (fun _ _ _ h => hp _ _ _ _ h) (.inl ⟨by kernel_rfl, fun V hV => ?_⟩) hS2 ?_
  · have s0 := hV
    try obtain ⟨s1, s2⟩ := s0
    go_split_ands
    go_simp
    all_goals (first | assumption | skip)
  simp only [Act.put, List.setIfInBounds_toArray, List.set_cons_zero, List.set_cons_succ]
  refine wpAnyH_take (i := 12) (oi := { dst := some 58, op := Op.fieldAddr 75 (Operand.tmp 57) 1, type := 0, pos := "disk.go:71", after := #[{ on := 11, ground := Ground.data }, { on := 0, ground := Ground.phase }, { on := 1, ground := Ground.phase }, { on := 2, ground := Ground.phase }, { on := 3, ground := Ground.phase }, { on := 4, ground := Ground.phase }, { on := 5, ground := Ground.phase }, { on := 6, ground := Ground.phase }, { on := 7, ground := Ground.phase }, { on := 8, ground := Ground.phase }, { on := 9, ground := Ground.phase }, { on := 10, ground := Ground.phase }], guard := none }) (v := .pointer (some ⟨gF, i * 3 + 1, none⟩)) rfl (by kernel_rfl) (by kernel_rfl) (by kernel_rfl) (fun _ _ _ h => hp _ _ _ _ h) (.inl ⟨by kernel_rfl, fun V hV => ?_⟩) hS2 ?_
  · have s0 := hV
    try obtain ⟨s1, s2⟩ := s0
    go_split_ands
    go_simp
    all_goals (first | assumption | skip)
  simp only [Act.put, List.setIfInBounds_toArray, List.set_cons_zero, List.set_cons_succ]
  refine wpAnyH_ready (rs := [13]) (by kernel_rfl) (by simp) ?_
  refine (AllReadyH.cons (o := { dst := none, op := Op.store 35 (Operand.tmp 58) (Operand.tmp 56), type := 0, pos := "disk.go:71", after := #[{ on := 12, ground := Ground.data }, { on := 10, ground := Ground.data }, { on := 10, ground := Ground.chain }, { on := 0, ground := Ground.phase }, { on := 1, ground := Ground.phase }, { on := 2, ground := Ground.phase }, { on := 3, ground := Ground.phase }, { on := 4, ground := Ground.phase }, { on := 5, ground := Ground.phase }, { on := 6, ground := Ground.phase }, { on := 7, ground := Ground.phase }, { on := 8, ground := Ground.phase }, { on := 9, ground := Ground.phase }, { on := 10, ground := Ground.phase }], guard := none }) rfl (fun K hK => ?_) AllReadyH.nil)
  go_simp
  refine hK.out _ _ (hcw w' r2 _) (fun _ => ?_)
  clear hK K
  try simp only [Act.put, List.setIfInBounds_toArray, List.set_cons_zero, List.set_cons_succ]
  exact wpAnyH_done (Q := calmD Q) (by kernel_rfl) hfin _

def regFi5Ops : Array Oper := #[{ dst := some 18, op := Op.move (Operand.tmp 3), type := 72, pos := "disk.go:80", after := #[], guard := none },
  { dst := some 19, op := Op.fieldAddr 75 (Operand.tmp 5) 0, type := 0, pos := "disk.go:80", after := #[], guard := none },
  { dst := some 20, op := Op.load 9 (Operand.tmp 19), type := 9, pos := "disk.go:80", after := #[{ on := 1, ground := Ground.data }], guard := none },
  { dst := some 21, op := Op.fieldAddr 75 (Operand.tmp 5) 1, type := 0, pos := "disk.go:80", after := #[], guard := none },
  { dst := some 22, op := Op.load 35 (Operand.tmp 21), type := 35, pos := "disk.go:80", after := #[{ on := 3, ground := Ground.data }], guard := none },
  { dst := some 23, op := Op.call { callee := Callee.builtin Builtin.append, args := #[Operand.const (Value.slice none 0 0), Operand.tmp 22], argTypes := #[35, 35] }, type := 35, pos := "disk.go:80", after := #[{ on := 4, ground := Ground.data }], guard := none },
  { dst := some 24, op := Op.fieldAddr 75 (Operand.tmp 5) 2, type := 0, pos := "disk.go:80", after := #[], guard := none },
  { dst := some 25, op := Op.load 3 (Operand.tmp 24), type := 3, pos := "disk.go:80", after := #[{ on := 6, ground := Ground.data }], guard := none },
  { dst := some 26, op := Op.build 75 #[(0, Operand.tmp 20), (1, Operand.tmp 23), (2, Operand.tmp 25)], type := 75, pos := "disk.go:80", after := #[{ on := 2, ground := Ground.data }, { on := 5, ground := Ground.data }, { on := 7, ground := Ground.data }], guard := none },
  { dst := some 27, op := Op.buildSlice 72 1 #[(0, Operand.tmp 26)], type := 72, pos := "disk.go:80", after := #[{ on := 8, ground := Ground.data }], guard := none },
  { dst := some 28, op := Op.call { callee := Callee.builtin Builtin.append, args := #[Operand.tmp 18, Operand.tmp 27], argTypes := #[72, 72] }, type := 72, pos := "disk.go:80", after := #[{ on := 0, ground := Ground.data }, { on := 9, ground := Ground.data }, { on := 5, ground := Ground.chain }], guard := none },
  { dst := some 3, op := Op.assign (Operand.tmp 28), type := 72, pos := "disk.go:80", after := #[{ on := 10, ground := Ground.data }, { on := 10, ground := Ground.chain }, { on := 0, ground := Ground.phase }, { on := 1, ground := Ground.phase }, { on := 2, ground := Ground.phase }, { on := 3, ground := Ground.phase }, { on := 4, ground := Ground.phase }, { on := 5, ground := Ground.phase }, { on := 6, ground := Ground.phase }, { on := 7, ground := Ground.phase }, { on := 8, ground := Ground.phase }, { on := 9, ground := Ground.phase }, { on := 10, ground := Ground.phase }], guard := none }]
set_option maxRecDepth 100000 in
set_option maxHeartbeats 4000000 in
theorem regFi5 (Q : Exit → Act → World → Prop) (b n : Nat) (s : ByteArray) (sf : Int) (av : Option Addr) (nv cv : Nat) (zs : List Int) (vo : Value) (xs : List Value) {t0 t1 t2 t4 t6 t7 t8 t9 t10 t11 t12 t13 t14 t15 t16 t17 t18 t19 t20 t21 t22 t23 t24 t25 t26 t27 t28 t29 t30 : Value} (W : World)
    (hl : zs.length = nv) (hz : Lies .u8 W.drew av zs) (hnn : av = none → nv = 0 ∧ cv = 0) (hnv : nv ≤ 1099511627776) (hn : n ≤ 1099511627776) (hob : ∀ V, W.drew.grownBy V (Value.slice none 0 0).ownBlock → V.ownsRow 0 75 3 vo n xs) (hvl : ∃ a c, vo = .slice a n c)
    (hcv : ∀ V, W.drew.grownBy V (Value.slice none 0 0).ownBlock → ∀ ro, (ro = none ∨ ro = vo.ownBlock) → ∀ U, V.grownBy U ro → U.cell? ⟨b, 0, none⟩ = some (.string s) ∧ U.cell? ⟨b, 1, none⟩ = some (.slice av nv cv) ∧ U.cell? ⟨b, 2, none⟩ = some (.int .i64 sf))
    (h : ∀ v1 w1 v2 w2, w1.ownsRow 0 5 1 v1 nv (zs.map (Value.int .u8)) → W.drew.grownBy w1 (Value.slice none 0 0).ownBlock → (v1.ownBlock = (Value.slice none 0 0).ownBlock ∨ v1.ownBlock = some W.drew.heap.size) → w2.ownsRow 0 75 3 v2 (n + 1) (xs ++ [.string s, v1, .int .i64 sf]) → w1.grownBy w2 vo.ownBlock → (v2.ownBlock = vo.ownBlock ∨ ∃ g, v2.ownBlock = some g ∧ w1.heap.size ≤ g) → Q .normal { tmps := (t0 :: t1 :: t2 :: v2 :: t4 :: .pointer (some ⟨b, 0, none⟩) :: t6 :: t7 :: t8 :: t9 :: t10 :: t11 :: t12 :: t13 :: t14 :: t15 :: t16 :: t17 :: vo :: .pointer (some ⟨b, 0, none⟩) :: .string s :: .pointer (some ⟨b, 1, none⟩) :: .slice av nv cv :: v1 :: .pointer (some ⟨b, 2, none⟩) :: .int .i64 sf :: .agg #[.string s, v1, .int .i64 sf] :: .slice (some ⟨w1.heap.size, 0, none⟩) 1 1 :: v2 :: t29 :: t30 :: []).toArray, defers := [] } w2) :
    (Code.region 5 regFi5Ops true).wp Tryz.prog Q { tmps := (t0 :: t1 :: t2 :: vo :: t4 :: .pointer (some ⟨b, 0, none⟩) :: t6 :: t7 :: t8 :: t9 :: t10 :: t11 :: t12 :: t13 :: t14 :: t15 :: t16 :: t17 :: t18 :: t19 :: t20 :: t21 :: t22 :: t23 :: t24 :: t25 :: t26 :: t27 :: t28 :: t29 :: t30 :: []).toArray, defers := [] } W := by
  refine Code.wp_mono (fun _ _ _ h => calmD_le h) ?_
  have hp : ∀ c a a' w, calmD Q (.panic c) a w → calmD Q (.panic c) a' w := fun _ _ _ _ h => h
  refine wp_region_held (S := fun V => V.cell? ⟨b, 0, none⟩ = some (.string s) ∧ V.cell? ⟨b, 1, none⟩ = some (.slice av nv cv) ∧ V.cell? ⟨b, 2, none⟩ = some (.int .i64 sf)) (by kernel_rfl) ?_
  change wpAnyH _ _ _ _ _ _ _ _ W.drew
  have hS := hcv W.drew ⟨rfl, rfl, rfl, Nat.le_refl _, fun _ _ _ => rfl⟩ none (.inl rfl) W.drew ⟨rfl, rfl, rfl, Nat.le_refl _, fun _ _ _ => rfl⟩
  obtain ⟨i0, hi, hz0, hz1, hz2⟩ := info_partsD infoFile
  obtain ⟨ao, co, rfl⟩ := hvl
  refine wpAnyH_take (i := 0) (oi := { dst := some 18, op := Op.move (Operand.tmp 3), type := 72, pos := "disk.go:80", after := #[], guard := none }) (v := .slice ao n co) rfl (by kernel_rfl) (by kernel_rfl) (by kernel_rfl) (fun _ _ _ h => hp _ _ _ _ h) (.inl ⟨by kernel_rfl, fun V hV => ?_⟩) hS ?_
  · have s0 := hV
    try obtain ⟨s1, s2⟩ := s0
    go_split_ands
    go_simp
    all_goals (first | assumption | skip)
  simp only [Act.put, List.setIfInBounds_toArray, List.set_cons_zero, List.set_cons_succ]
  refine wpAnyH_take (i := 1) (oi := { dst := some 19, op := Op.fieldAddr 75 (Operand.tmp 5) 0, type := 0, pos := "disk.go:80", after := #[], guard := none }) (v := .pointer (some ⟨b, 0, none⟩)) rfl (by kernel_rfl) (by kernel_rfl) (by kernel_rfl) (fun _ _ _ h => hp _ _ _ _ h) (.inl ⟨by kernel_rfl, fun V hV => ?_⟩) hS ?_
  · have s0 := hV
    try obtain ⟨s1, s2⟩ := s0
    go_split_ands
    go_simp
    all_goals (first | assumption | skip)
  simp only [Act.put, List.setIfInBounds_toArray, List.set_cons_zero, List.set_cons_succ]
  refine wpAnyH_take (i := 2) (oi := { dst := some 20, op := Op.load 9 (Operand.tmp 19), type := 9, pos := "disk.go:80", after := #[{ on := 1, ground := Ground.data }], guard := none }) (v := .string s) rfl (by kernel_rfl) (by kernel_rfl) (by kernel_rfl) (fun _ _ _ h => hp _ _ _ _ h) (.inl ⟨by kernel_rfl, fun V hV => ?_⟩) hS ?_
  · have s0 := hV
    try obtain ⟨s1, s2⟩ := s0
    go_split_ands
    go_simp
    all_goals (first | assumption | skip)
  simp only [Act.put, List.setIfInBounds_toArray, List.set_cons_zero, List.set_cons_succ]
  refine wpAnyH_take (i := 3) (oi := { dst := some 21, op := Op.fieldAddr 75 (Operand.tmp 5) 1, type := 0, pos := "disk.go:80", after := #[], guard := none }) (v := .pointer (some ⟨b, 1, none⟩)) rfl (by kernel_rfl) (by kernel_rfl) (by kernel_rfl) (fun _ _ _ h => hp _ _ _ _ h) (.inl ⟨by kernel_rfl, fun V hV => ?_⟩) hS ?_
  · have s0 := hV
    try obtain ⟨s1, s2⟩ := s0
    go_split_ands
    go_simp
    all_goals (first | assumption | skip)
  simp only [Act.put, List.setIfInBounds_toArray, List.set_cons_zero, List.set_cons_succ]
  refine wpAnyH_take (i := 4) (oi := { dst := some 22, op := Op.load 35 (Operand.tmp 21), type := 35, pos := "disk.go:80", after := #[{ on := 3, ground := Ground.data }], guard := none }) (v := .slice av nv cv) rfl (by kernel_rfl) (by kernel_rfl) (by kernel_rfl) (fun _ _ _ h => hp _ _ _ _ h) (.inl ⟨by kernel_rfl, fun V hV => ?_⟩) hS ?_
  · have s0 := hV
    try obtain ⟨s1, s2⟩ := s0
    go_split_ands
    go_simp
    all_goals (first | assumption | skip)
  simp only [Act.put, List.setIfInBounds_toArray, List.set_cons_zero, List.set_cons_succ]
  refine wpAnyH_take (i := 6) (oi := { dst := some 24, op := Op.fieldAddr 75 (Operand.tmp 5) 2, type := 0, pos := "disk.go:80", after := #[], guard := none }) (v := .pointer (some ⟨b, 2, none⟩)) rfl (by kernel_rfl) (by kernel_rfl) (by kernel_rfl) (fun _ _ _ h => hp _ _ _ _ h) (.inl ⟨by kernel_rfl, fun V hV => ?_⟩) hS ?_
  · have s0 := hV
    try obtain ⟨s1, s2⟩ := s0
    go_split_ands
    go_simp
    all_goals (first | assumption | skip)
  simp only [Act.put, List.setIfInBounds_toArray, List.set_cons_zero, List.set_cons_succ]
  refine wpAnyH_take (i := 7) (oi := { dst := some 25, op := Op.load 3 (Operand.tmp 24), type := 3, pos := "disk.go:80", after := #[{ on := 6, ground := Ground.data }], guard := none }) (v := .int .i64 sf) rfl (by kernel_rfl) (by kernel_rfl) (by kernel_rfl) (fun _ _ _ h => hp _ _ _ _ h) (.inl ⟨by kernel_rfl, fun V hV => ?_⟩) hS ?_
  · have s0 := hV
    try obtain ⟨s1, s2⟩ := s0
    go_split_ands
    go_simp
    all_goals (first | assumption | skip)
  simp only [Act.put, List.setIfInBounds_toArray, List.set_cons_zero, List.set_cons_succ]
  refine wpAnyH_all (rs := [5]) (by kernel_rfl) (by simp) ?_
  intro i hiX
  obtain rfl : i = 5 := by simpa using hiX
  refine appB_opD (j := 5) (o := { dst := some 23, op := Op.call { callee := Callee.builtin Builtin.append, args := #[Operand.const (Value.slice none 0 0), Operand.tmp 22], argTypes := #[35, 35] }, type := 35, pos := "disk.go:80", after := #[{ on := 4, ground := Ground.data }], guard := none }) rfl rfl (.const (.slice none 0 0)) (.tmp 22) rfl (.slice none 0 0) 0 [] (by simp [Act.eval]) (w := W.drew) (World.ownsRow_nil _ _ _ _) av nv cv zs (by simp [Act.eval]) hl hz hnn (by omega) ?_
  intro v1 w1 r1 r2 r3
  rw [Nat.zero_add] at r1
  have hS1 := hcv w1 r2 none (.inl rfl) w1 ⟨rfl, rfl, rfl, Nat.le_refl _, fun _ _ _ => rfl⟩
  refine ⟨hS1, ?_⟩
  have hvo := hob w1 r2
  obtain ⟨a1, n1, rfl⟩ := d_shape r1
  try simp only [Act.put, List.setIfInBounds_toArray, List.set_cons_zero, List.set_cons_succ]
  refine wpAnyH_take (i := 8) (oi := { dst := some 26, op := Op.build 75 #[(0, Operand.tmp 20), (1, Operand.tmp 23), (2, Operand.tmp 25)], type := 75, pos := "disk.go:80", after := #[{ on := 2, ground := Ground.data }, { on := 5, ground := Ground.data }, { on := 7, ground := Ground.data }], guard := none }) (v := .agg #[.string s, .slice a1 nv n1, .int .i64 sf]) rfl (by kernel_rfl) (by kernel_rfl) (by kernel_rfl) (fun _ _ _ h => hp _ _ _ _ h) (.inl ⟨by kernel_rfl, fun V hV => ?_⟩) hS1 ?_
  · have s0 := hV
    try obtain ⟨s1, s2⟩ := s0
    go_split_ands
    go_simp
    all_goals (first | assumption | skip)
  simp only [Act.put, List.setIfInBounds_toArray, List.set_cons_zero, List.set_cons_succ]
  refine wpAnyH_ready (rs := [9]) (by kernel_rfl) (by simp) ?_
  refine (AllReadyH.cons (o := { dst := some 27, op := Op.buildSlice 72 1 #[(0, Operand.tmp 26)], type := 72, pos := "disk.go:80", after := #[{ on := 8, ground := Ground.data }], guard := none }) rfl (fun K hK => ?_) AllReadyH.nil)
  go_simp
  refine hK.out _ _ (hcv w1 r2 none (.inl rfl) (w1.alloc (.cells #[.string s, .slice a1 nv n1, .int .i64 sf] 75)) (World.grownBy_alloc w1 _ _)) (fun _ => ?_)
  clear hK K
  try simp only [Act.put, List.setIfInBounds_toArray, List.set_cons_zero, List.set_cons_succ]
  have hS2 := hcv w1 r2 none (.inl rfl) (w1.alloc (.cells #[.string s, .slice a1 nv n1, .int .i64 sf] 75)) (World.grownBy_alloc w1 _ _)
  refine wpAnyH_all (rs := [10]) (by kernel_rfl) (by simp) ?_
  intro i hiX
  obtain rfl : i = 10 := by simpa using hiX
  refine app_opD (j := 10) (o := { dst := some 28, op := Op.call { callee := Callee.builtin Builtin.append, args := #[Operand.tmp 18, Operand.tmp 27], argTypes := #[72, 72] }, type := 72, pos := "disk.go:80", after := #[{ on := 0, ground := Ground.data }, { on := 9, ground := Ground.data }, { on := 5, ground := Ground.chain }], guard := none }) rfl rfl (.tmp 18) (.tmp 27) 72 rfl 0 75 i0 (.agg #[.string ⟨#[]⟩, .slice none 0 0, .int .i64 0]) 3 48 Tryz.underlying72 hi hz0 hz1 hz2 rfl (by decide) (.slice ao n co) n xs (by simp [Act.eval]) (World.ownsRow.alloc hvo _) ⟨w1.heap.size, 0, none⟩ 1 1 [.string s, .slice a1 nv n1, .int .i64 sf] (by simp [Act.eval]) rfl (three_newD w1 _ _ _ _) (by simp [Value.oneCell']) (by unfold maxLen; omega) (by omega) (Nat.zero_le _) ?_
  intro v2 w2 q1 q2 q3
  have hgr : w1.grownBy w2 (Value.slice ao n co).ownBlock := (World.grownBy_alloc w1 _ _).trans q2
  have hS3 := hcv w1 r2 (Value.slice ao n co).ownBlock (.inr rfl) w2 hgr
  refine ⟨hS3, ?_⟩
  have hfin := h _ w1 v2 w2 (by simpa using r1) r2 r3 q1 hgr (q3.elim .inl (fun e => .inr ⟨_, e, by simp⟩))
  obtain ⟨a2, n2, rfl⟩ := d_shape q1
  try simp only [Act.put, List.setIfInBounds_toArray, List.set_cons_zero, List.set_cons_succ]
  refine wpAnyH_take (i := 11) (oi := { dst := some 3, op := Op.assign (Operand.tmp 28), type := 72, pos := "disk.go:80", after := #[{ on := 10, ground := Ground.data }, { on := 10, ground := Ground.chain }, { on := 0, ground := Ground.phase }, { on := 1, ground := Ground.phase }, { on := 2, ground := Ground.phase }, { on := 3, ground := Ground.phase }, { on := 4, ground := Ground.phase }, { on := 5, ground := Ground.phase }, { on := 6, ground := Ground.phase }, { on := 7, ground := Ground.phase }, { on := 8, ground := Ground.phase }, { on := 9, ground := Ground.phase }, { on := 10, ground := Ground.phase }], guard := none }) (v := .slice a2 (n + 1) n2) rfl (by kernel_rfl) (by kernel_rfl) (by kernel_rfl) (fun _ _ _ h => hp _ _ _ _ h) (.inl ⟨by kernel_rfl, fun V hV => ?_⟩) hS3 ?_
  · have s0 := hV
    try obtain ⟨s1, s2⟩ := s0
    go_split_ands
    go_simp
    all_goals (first | assumption | skip)
  simp only [Act.put, List.setIfInBounds_toArray, List.set_cons_zero, List.set_cons_succ]
  exact wpAnyH_done (Q := calmD Q) (by kernel_rfl) hfin _

end Go.Proofs.YtllhbhogfffedaaGreatDoor.K
