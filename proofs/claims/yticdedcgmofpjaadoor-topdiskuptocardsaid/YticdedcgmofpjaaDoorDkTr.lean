import Derived.Test.YticdedcgmofpjaaDoorDkTw
import Derived.Laws.MakeOwn
namespace Go.Proofs.YticdedcgmofpjaaDoor.K
open Go.RowKit
set_option linter.unusedVariables false
set_option linter.unusedSimpArgs false
theorem mk_opD {ops : Array Oper} {Q : Exit → Act → World → Prop} {j : Nat} {K : Act → World → Prop} {a : Act} {w : World} {o : Oper} (hj : ops[j]? = some o) (hgd : o.guard = none) (x y : Operand)
    (hop : o.op = Op.makeSlice 36 x y) (hx : a.eval x = .int .i64 0) (nd : Nat) (hy : a.eval y = .int .i64 (nd : Int)) (hb : nd ≤ 140737488355328)
    (hK : ∀ w', w'.ownsRow 0 5 1 (.slice (some ⟨w.heap.size, 0, none⟩) 0 nd) 0 [] → w.grownBy w' none → K (a.put o.dst (.slice (some ⟨w.heap.size, 0, none⟩) 0 nd)) w') : wpOp Tryd.prog ops Q j K a w := by
  obtain ⟨i0, hi, hz0, hz1, hz2⟩ := info_partsD infoU8
  unfold wpOp
  simp only [hj]
  have hw : Region.wanted o (yielded ops a.tmps) = true := by simp [Region.wanted, hgd]
  rw [if_pos hw]
  left
  obtain ⟨w', hrun, r1, r2⟩ := run_make_own (P := Tryd.prog) w 0 36 5 i0 (.int .u8 0) 1 Tryd.underlying36 hi hz0 hz1 .i64 .i64 nd (by rw [hz2]; omega) (by unfold maxLen; omega) (Nat.zero_le _)
  unfold Oper.wp
  simp [execOp, hop, hx, hy, hrun, Result.andThen]
  exact hK w' r1 r2
section
attribute [local go_sem] Oper.semAt_some

def regTd12Ops : Array Oper := #[{ dst := some 41, op := Op.fieldAddr 38 (Operand.tmp 11) 5, type := 0, pos := "top01.go:211", after := #[], guard := none },
  { dst := some 42, op := Op.load 36 (Operand.tmp 41), type := 36, pos := "top01.go:211", after := #[{ on := 0, ground := Ground.data }], guard := none },
  { dst := some 43, op := Op.call { callee := Callee.builtin Builtin.len, args := #[Operand.tmp 42], argTypes := #[36] }, type := 3, pos := "top01.go:211", after := #[{ on := 1, ground := Ground.data }], guard := none },
  { dst := some 44, op := Op.makeSlice 36 (Operand.const (Value.int IntKind.i64 0)) (Operand.tmp 43), type := 36, pos := "top01.go:211", after := #[{ on := 2, ground := Ground.data }], guard := none },
  { dst := some 45, op := Op.fieldAddr 38 (Operand.tmp 11) 5, type := 0, pos := "top01.go:211", after := #[], guard := none },
  { dst := some 46, op := Op.load 36 (Operand.tmp 45), type := 36, pos := "top01.go:211", after := #[{ on := 4, ground := Ground.data }], guard := none },
  { dst := some 47, op := Op.call { callee := Callee.builtin Builtin.append, args := #[Operand.tmp 44, Operand.tmp 46], argTypes := #[36, 36] }, type := 36, pos := "top01.go:211", after := #[{ on := 3, ground := Ground.data }, { on := 5, ground := Ground.data }], guard := none },
  { dst := some 14, op := Op.assign (Operand.tmp 47), type := 36, pos := "top01.go:211", after := #[{ on := 6, ground := Ground.data }, { on := 6, ground := Ground.chain }, { on := 0, ground := Ground.phase }, { on := 1, ground := Ground.phase }, { on := 2, ground := Ground.phase }, { on := 3, ground := Ground.phase }, { on := 4, ground := Ground.phase }, { on := 5, ground := Ground.phase }, { on := 6, ground := Ground.phase }], guard := none }]
set_option maxRecDepth 100000 in
set_option maxHeartbeats 4000000 in
theorem regTd12 (Q : Exit → Act → World → Prop) (Tb : Nat) (ad : Option Addr) (nd cd : Nat) (zs : List Int) {t0 t1 t2 t3 t4 t5 t6 t7 t8 t9 t10 t12 t13 t14 t15 t16 t17 t18 t19 t20 t21 t22 t23 t24 t25 t26 t27 t28 t29 t30 t31 t32 t33 t34 t35 t36 t37 t38 t39 t40 t41 t42 t43 t44 t45 t46 t47 t48 t49 t50 t51 t52 t53 t54 t55 t56 t57 t58 t59 t60 t61 t62 t63 t64 t65 t66 t67 t68 t69 t70 t71 t72 t73 t74 t75 t76 t77 t78 t79 t80 t81 t82 t83 t84 t85 t86 t87 t88 t89 t90 t91 t92 t93 t94 t95 t96 t97 t98 t99 t100 t101 t102 t103 t104 t105 t106 t107 t108 t109 t110 t111 t112 t113 t114 t115 t116 t117 t118 t119 t120 t121 t122 t123 t124 t125 t126 t127 t128 t129 t130 t131 t132 t133 t134 t135 t136 t137 t138 t139 t140 t141 t142 t143 t144 t145 t146 t147 t148 t149 t150 t151 t152 t153 t154 t155 t156 t157 t158 t159 t160 t161 t162 t163 t164 t165 t166 t167 t168 t169 t170 t171 t172 t173 t174 : Value} (W : World)
    (hl : zs.length = nd) (hnn : ad = none → nd = 0 ∧ cd = 0) (hb : nd ≤ 1099511627776) (hcv : ∀ V : World, Below W.heap.size W V → V.cell? ⟨Tb, 5, none⟩ = some (.slice ad nd cd) ∧ Lies .u8 V ad zs)
    (h : ∀ v' w', w'.ownsRow 0 5 1 v' nd (zs.map (Value.int .u8)) → Below W.heap.size W w' → (∀ g, v'.ownBlock = some g → W.heap.size ≤ g) → Q .normal { tmps := (t0 :: t1 :: t2 :: t3 :: t4 :: t5 :: t6 :: t7 :: t8 :: t9 :: t10 :: .pointer (some ⟨Tb, 0, none⟩) :: t12 :: t13 :: v' :: t15 :: t16 :: t17 :: t18 :: t19 :: t20 :: t21 :: t22 :: t23 :: t24 :: t25 :: t26 :: t27 :: t28 :: t29 :: t30 :: t31 :: t32 :: t33 :: t34 :: t35 :: t36 :: t37 :: t38 :: t39 :: t40 :: .pointer (some ⟨Tb, 5, none⟩) :: .slice ad nd cd :: .int .i64 ((nd : Nat) : Int) :: .slice (some ⟨W.heap.size, 0, none⟩) 0 nd :: .pointer (some ⟨Tb, 5, none⟩) :: .slice ad nd cd :: v' :: t48 :: t49 :: t50 :: t51 :: t52 :: t53 :: t54 :: t55 :: t56 :: t57 :: t58 :: t59 :: t60 :: t61 :: t62 :: t63 :: t64 :: t65 :: t66 :: t67 :: t68 :: t69 :: t70 :: t71 :: t72 :: t73 :: t74 :: t75 :: t76 :: t77 :: t78 :: t79 :: t80 :: t81 :: t82 :: t83 :: t84 :: t85 :: t86 :: t87 :: t88 :: t89 :: t90 :: t91 :: t92 :: t93 :: t94 :: t95 :: t96 :: t97 :: t98 :: t99 :: t100 :: t101 :: t102 :: t103 :: t104 :: t105 :: t106 :: t107 :: t108 :: t109 :: t110 :: t111 :: t112 :: t113 :: t114 :: t115 :: t116 :: t117 :: t118 :: t119 :: t120 :: t121 :: t122 :: t123 :: t124 :: t125 :: t126 :: t127 :: t128 :: t129 :: t130 :: t131 :: t132 :: t133 :: t134 :: t135 :: t136 :: t137 :: t138 :: t139 :: t140 :: t141 :: t142 :: t143 :: t144 :: t145 :: t146 :: t147 :: t148 :: t149 :: t150 :: t151 :: t152 :: t153 :: t154 :: t155 :: t156 :: t157 :: t158 :: t159 :: t160 :: t161 :: t162 :: t163 :: t164 :: t165 :: t166 :: t167 :: t168 :: t169 :: t170 :: t171 :: t172 :: t173 :: t174 :: []).toArray, defers := [] } w') :
    (Code.region 12 regTd12Ops true).wp Tryd.prog Q { tmps := (t0 :: t1 :: t2 :: t3 :: t4 :: t5 :: t6 :: t7 :: t8 :: t9 :: t10 :: .pointer (some ⟨Tb, 0, none⟩) :: t12 :: t13 :: t14 :: t15 :: t16 :: t17 :: t18 :: t19 :: t20 :: t21 :: t22 :: t23 :: t24 :: t25 :: t26 :: t27 :: t28 :: t29 :: t30 :: t31 :: t32 :: t33 :: t34 :: t35 :: t36 :: t37 :: t38 :: t39 :: t40 :: t41 :: t42 :: t43 :: t44 :: t45 :: t46 :: t47 :: t48 :: t49 :: t50 :: t51 :: t52 :: t53 :: t54 :: t55 :: t56 :: t57 :: t58 :: t59 :: t60 :: t61 :: t62 :: t63 :: t64 :: t65 :: t66 :: t67 :: t68 :: t69 :: t70 :: t71 :: t72 :: t73 :: t74 :: t75 :: t76 :: t77 :: t78 :: t79 :: t80 :: t81 :: t82 :: t83 :: t84 :: t85 :: t86 :: t87 :: t88 :: t89 :: t90 :: t91 :: t92 :: t93 :: t94 :: t95 :: t96 :: t97 :: t98 :: t99 :: t100 :: t101 :: t102 :: t103 :: t104 :: t105 :: t106 :: t107 :: t108 :: t109 :: t110 :: t111 :: t112 :: t113 :: t114 :: t115 :: t116 :: t117 :: t118 :: t119 :: t120 :: t121 :: t122 :: t123 :: t124 :: t125 :: t126 :: t127 :: t128 :: t129 :: t130 :: t131 :: t132 :: t133 :: t134 :: t135 :: t136 :: t137 :: t138 :: t139 :: t140 :: t141 :: t142 :: t143 :: t144 :: t145 :: t146 :: t147 :: t148 :: t149 :: t150 :: t151 :: t152 :: t153 :: t154 :: t155 :: t156 :: t157 :: t158 :: t159 :: t160 :: t161 :: t162 :: t163 :: t164 :: t165 :: t166 :: t167 :: t168 :: t169 :: t170 :: t171 :: t172 :: t173 :: t174 :: []).toArray, defers := [] } W := by
  refine Code.wp_mono (fun _ _ _ h => calmD_le h) ?_
  have hp : ∀ c a a' w, calmD Q (.panic c) a w → calmD Q (.panic c) a' w := fun _ _ _ _ h => h
  refine wp_region_held (S := fun V => V.cell? ⟨Tb, 5, none⟩ = some (.slice ad nd cd)) (by kernel_rfl) ?_
  change wpAnyH _ _ _ _ _ _ _ _ W.drew
  have hS := (hcv W.drew ⟨rfl, rfl, rfl, Nat.le_refl _, fun _ _ => rfl⟩).1
  refine wpAnyH_take (i := 0) (oi := { dst := some 41, op := Op.fieldAddr 38 (Operand.tmp 11) 5, type := 0, pos := "top01.go:211", after := #[], guard := none }) (v := .pointer (some ⟨Tb, 5, none⟩)) rfl (by kernel_rfl) (by kernel_rfl) (by kernel_rfl) (fun _ _ _ h => hp _ _ _ _ h) (.inl ⟨by kernel_rfl, fun V hV => ?_⟩) hS ?_
  · have s0 := hV
    try obtain ⟨s1, s2⟩ := s0
    go_split_ands
    go_simp
    all_goals (first | assumption | skip)
  simp only [Act.put, List.setIfInBounds_toArray, List.set_cons_zero, List.set_cons_succ]
  refine wpAnyH_take (i := 1) (oi := { dst := some 42, op := Op.load 36 (Operand.tmp 41), type := 36, pos := "top01.go:211", after := #[{ on := 0, ground := Ground.data }], guard := none }) (v := .slice ad nd cd) rfl (by kernel_rfl) (by kernel_rfl) (by kernel_rfl) (fun _ _ _ h => hp _ _ _ _ h) (.inl ⟨by kernel_rfl, fun V hV => ?_⟩) hS ?_
  · have s0 := hV
    try obtain ⟨s1, s2⟩ := s0
    go_split_ands
    go_simp
    all_goals (first | assumption | skip)
  simp only [Act.put, List.setIfInBounds_toArray, List.set_cons_zero, List.set_cons_succ]
  refine wpAnyH_take (i := 2) (oi := { dst := some 43, op := Op.call { callee := Callee.builtin Builtin.len, args := #[Operand.tmp 42], argTypes := #[36] }, type := 3, pos := "top01.go:211", after := #[{ on := 1, ground := Ground.data }], guard := none }) (v := .int .i64 ((nd : Nat) : Int)) rfl (by kernel_rfl) (by kernel_rfl) (by kernel_rfl) (fun _ _ _ h => hp _ _ _ _ h) (.inl ⟨by kernel_rfl, fun V hV => ?_⟩) hS ?_
  · have s0 := hV
    try obtain ⟨s1, s2⟩ := s0
    go_split_ands
    go_simp
    all_goals (first | assumption | skip)
  simp only [Act.put, List.setIfInBounds_toArray, List.set_cons_zero, List.set_cons_succ]
  refine wpAnyH_take (i := 4) (oi := { dst := some 45, op := Op.fieldAddr 38 (Operand.tmp 11) 5, type := 0, pos := "top01.go:211", after := #[], guard := none }) (v := .pointer (some ⟨Tb, 5, none⟩)) rfl (by kernel_rfl) (by kernel_rfl) (by kernel_rfl) (fun _ _ _ h => hp _ _ _ _ h) (.inl ⟨by kernel_rfl, fun V hV => ?_⟩) hS ?_
  · have s0 := hV
    try obtain ⟨s1, s2⟩ := s0
    go_split_ands
    go_simp
    all_goals (first | assumption | skip)
  simp only [Act.put, List.setIfInBounds_toArray, List.set_cons_zero, List.set_cons_succ]
  refine wpAnyH_take (i := 5) (oi := { dst := some 46, op := Op.load 36 (Operand.tmp 45), type := 36, pos := "top01.go:211", after := #[{ on := 4, ground := Ground.data }], guard := none }) (v := .slice ad nd cd) rfl (by kernel_rfl) (by kernel_rfl) (by kernel_rfl) (fun _ _ _ h => hp _ _ _ _ h) (.inl ⟨by kernel_rfl, fun V hV => ?_⟩) hS ?_
  · have s0 := hV
    try obtain ⟨s1, s2⟩ := s0
    go_split_ands
    go_simp
    all_goals (first | assumption | skip)
  simp only [Act.put, List.setIfInBounds_toArray, List.set_cons_zero, List.set_cons_succ]
  refine wpAnyH_all (rs := [3]) (by kernel_rfl) (by simp) ?_
  intro i hiX
  obtain rfl : i = 3 := by simpa using hiX
  refine mk_opD (j := 3) (o := { dst := some 44, op := Op.makeSlice 36 (Operand.const (Value.int IntKind.i64 0)) (Operand.tmp 43), type := 36, pos := "top01.go:211", after := #[{ on := 2, ground := Ground.data }], guard := none }) rfl rfl (.const (.int .i64 0)) (.tmp 43) rfl (by simp [Act.eval]) nd (by simp [Act.eval]) (by omega) ?_
  intro w1 m1 m2
  have hb1 : Below W.heap.size W w1 := ⟨m2.os, m2.tape, m2.output, m2.size, fun k hk => m2.block k hk (fun e => by cases e)⟩
  have hS1 := (hcv w1 hb1).1
  refine ⟨hS1, ?_⟩
  try simp only [Act.put, List.setIfInBounds_toArray, List.set_cons_zero, List.set_cons_succ]
  refine wpAnyH_all (rs := [6]) (by kernel_rfl) (by simp) ?_
  intro i hiX
  obtain rfl : i = 6 := by simpa using hiX
  refine appB_opD (j := 6) (o := { dst := some 47, op := Op.call { callee := Callee.builtin Builtin.append, args := #[Operand.tmp 44, Operand.tmp 46], argTypes := #[36, 36] }, type := 36, pos := "top01.go:211", after := #[{ on := 3, ground := Ground.data }, { on := 5, ground := Ground.data }], guard := none }) rfl rfl (.tmp 44) (.tmp 46) rfl (.slice (some ⟨W.heap.size, 0, none⟩) 0 nd) 0 [] (by simp [Act.eval]) (w := w1) m1 ad nd cd zs (by simp [Act.eval]) hl (hcv w1 hb1).2 hnn (by omega) ?_
  intro v' w' r1 r2 r3
  rw [Nat.zero_add] at r1
  have hb2 : Below W.heap.size W w' := ⟨r2.os.trans hb1.os, r2.tape.trans hb1.tape, r2.output.trans hb1.output, Nat.le_trans hb1.size r2.size, fun k hk => (r2.block k (Nat.lt_of_lt_of_le hk hb1.size) (fun e => by simp only [Value.ownBlock, Option.some.injEq] at e; omega)).trans (hb1.block k hk)⟩
  have hS2 := (hcv w' hb2).1
  refine ⟨hS2, ?_⟩
  have hfin := h v' w' (by simpa using r1) hb2 (fun g hg => by rcases r3 with e | e <;> rw [e] at hg <;> simp only [Value.ownBlock, Option.some.injEq] at hg <;> have := hb1.size <;> omega)
  obtain ⟨a1, n1, rfl⟩ := d_shape r1
  try simp only [Act.put, List.setIfInBounds_toArray, List.set_cons_zero, List.set_cons_succ]
  refine wpAnyH_take (i := 7) (oi := { dst := some 14, op := Op.assign (Operand.tmp 47), type := 36, pos := "top01.go:211", after := #[{ on := 6, ground := Ground.data }, { on := 6, ground := Ground.chain }, { on := 0, ground := Ground.phase }, { on := 1, ground := Ground.phase }, { on := 2, ground := Ground.phase }, { on := 3, ground := Ground.phase }, { on := 4, ground := Ground.phase }, { on := 5, ground := Ground.phase }, { on := 6, ground := Ground.phase }], guard := none }) (v := .slice a1 nd n1) rfl (by kernel_rfl) (by kernel_rfl) (by kernel_rfl) (fun _ _ _ h => hp _ _ _ _ h) (.inl ⟨by kernel_rfl, fun V hV => ?_⟩) hS2 ?_
  · have s0 := hV
    try obtain ⟨s1, s2⟩ := s0
    go_split_ands
    go_simp
    all_goals (first | assumption | skip)
  simp only [Act.put, List.setIfInBounds_toArray, List.set_cons_zero, List.set_cons_succ]
  exact wpAnyH_done (Q := calmD Q) (by kernel_rfl) hfin _

end
end Go.Proofs.YticdedcgmofpjaaDoor.K
