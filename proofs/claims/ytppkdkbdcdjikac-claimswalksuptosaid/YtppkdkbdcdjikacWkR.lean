import Derived.Test.YtppkdkbdcdjikacWkJ
import Derived.Deep.RegionHeld3
namespace Go.Proofs.Ytppkdkbdcdjikac
open Go.RowKit Go.Shelf
attribute [local go_sem] Oper.semAt_some
set_option linter.unusedVariables false

def ops23 : Array Oper := #[{ dst := some 58, op := Op.load 4 (Operand.tmp 14), type := 4, pos := "law.go:230", after := #[], guard := none },
  { dst := some 59, op := Op.move (Operand.tmp 58), type := 4, pos := "law.go:230", after := #[{ on := 0, ground := Ground.data }], guard := none },
  { dst := some 60, op := Op.load 3 (Operand.tmp 12), type := 3, pos := "law.go:230", after := #[{ on := 1, ground := Ground.guard }], guard := some (1, true) },
  { dst := some 61, op := Op.load 45 (Operand.tmp 10), type := 45, pos := "law.go:230", after := #[{ on := 1, ground := Ground.guard }], guard := some (1, true) },
  { dst := some 62, op := Op.call { callee := Callee.builtin Builtin.len, args := #[Operand.tmp 61], argTypes := #[45] }, type := 3, pos := "law.go:230", after := #[{ on := 3, ground := Ground.data }, { on := 1, ground := Ground.guard }], guard := some (1, true) },
  { dst := some 63, op := Op.binOp BinOp.lss 3 (Operand.tmp 60) (Operand.tmp 62) 3, type := 4, pos := "law.go:230", after := #[{ on := 2, ground := Ground.data }, { on := 4, ground := Ground.data }, { on := 1, ground := Ground.guard }], guard := some (1, true) },
  { dst := some 64, op := Op.pick (Operand.tmp 59) (Operand.tmp 63) (Operand.const (Value.bool false)), type := 4, pos := "law.go:230", after := #[{ on := 1, ground := Ground.data }, { on := 5, ground := Ground.data }], guard := none },
  { dst := some 65, op := Op.move (Operand.tmp 64), type := 4, pos := "law.go:230", after := #[{ on := 6, ground := Ground.data }, { on := 1, ground := Ground.chain }], guard := none },
  { dst := some 66, op := Op.load 45 (Operand.tmp 10), type := 45, pos := "law.go:230", after := #[{ on := 7, ground := Ground.guard }], guard := some (7, true) },
  { dst := some 67, op := Op.load 3 (Operand.tmp 12), type := 3, pos := "law.go:230", after := #[{ on := 7, ground := Ground.guard }], guard := some (7, true) },
  { dst := some 68, op := Op.indexAddr 45 (Operand.tmp 66) (Operand.tmp 67), type := 0, pos := "law.go:230", after := #[{ on := 8, ground := Ground.data }, { on := 9, ground := Ground.data }, { on := 7, ground := Ground.guard }], guard := some (7, true) },
  { dst := some 69, op := Op.load 48 (Operand.tmp 68), type := 48, pos := "law.go:230", after := #[{ on := 10, ground := Ground.data }, { on := 7, ground := Ground.guard }], guard := some (7, true) },
  { dst := some 70, op := Op.load 24 (Operand.tmp 16), type := 24, pos := "law.go:230", after := #[{ on := 7, ground := Ground.guard }], guard := some (7, true) },
  { dst := some 71, op := Op.move (Operand.tmp 17), type := 4, pos := "law.go:230", after := #[{ on := 7, ground := Ground.guard }], guard := some (7, true) },
  { dst := some 72, op := Op.build 48 #[(0, Operand.tmp 70), (1, Operand.tmp 71)], type := 48, pos := "law.go:230", after := #[{ on := 12, ground := Ground.data }, { on := 13, ground := Ground.data }, { on := 7, ground := Ground.guard }], guard := some (7, true) },
  { dst := some 73, op := Op.binOp BinOp.eql 48 (Operand.tmp 69) (Operand.tmp 72) 48, type := 4, pos := "law.go:230", after := #[{ on := 11, ground := Ground.data }, { on := 14, ground := Ground.data }, { on := 7, ground := Ground.guard }], guard := some (7, true) },
  { dst := some 74, op := Op.pick (Operand.tmp 65) (Operand.tmp 73) (Operand.const (Value.bool false)), type := 4, pos := "law.go:230", after := #[{ on := 7, ground := Ground.data }, { on := 15, ground := Ground.data }], guard := none },
  { dst := none, op := Op.store 4 (Operand.tmp 14) (Operand.tmp 74), type := 0, pos := "law.go:230", after := #[{ on := 16, ground := Ground.data }, { on := 7, ground := Ground.chain }, { on := 0, ground := Ground.phase }, { on := 1, ground := Ground.phase }, { on := 2, ground := Ground.phase }, { on := 3, ground := Ground.phase }, { on := 4, ground := Ground.phase }, { on := 5, ground := Ground.phase }, { on := 6, ground := Ground.phase }, { on := 7, ground := Ground.phase }, { on := 8, ground := Ground.phase }, { on := 9, ground := Ground.phase }, { on := 10, ground := Ground.phase }, { on := 11, ground := Ground.phase }, { on := 12, ground := Ground.phase }, { on := 13, ground := Ground.phase }, { on := 14, ground := Ground.phase }, { on := 15, ground := Ground.phase }, { on := 16, ground := Ground.phase }], guard := none }]

set_option maxRecDepth 100000 in
set_option maxHeartbeats 4000000 in
theorem reg23_E (l n : Nat) (Q : Exit → Act → World → Prop) (hq : ¬ LetsOut Q) (hp : ∀ c a a' w, Q (.panic c) a w → Q (.panic c) a' w) (bo N bw g5 nL cc5 k Bx : Nat) (x1 x2 : Int) (xb : Bool) {t0 t1 t2 t3 t4 t5 t6 t7 t8 t9 t11 t13 t15 t18 t19 t20 t21 t22 t23 t24 t25 t26 t27 t28 t29 t30 t31 t32 t33 t34 t35 t36 t37 t38 t39 t40 t41 t42 t43 t44 t45 t46 t47 t48 t49 t50 t51 t52 t53 t54 t55 t56 t57 t58 t59 t60 t61 t62 t63 t64 t65 t66 t67 t68 t69 t70 t71 t72 t73 t74 t75 t76 t77 t78 t79 t80 t81 t82 t83 t84 t85 t86 t87 t88 t89 t90 t91 t92 t93 t94 t95 t96 t97 t98 t99 t100 : Value} (W : World) (hk : k < nL)
    (hS : W.drew.cell? ⟨N, 0, none⟩ = some (.int .i64 (k : Int)) ∧ W.drew.cell? ⟨bw, 0, none⟩ = some (.slice (some ⟨g5, 0, none⟩) nL cc5) ∧ W.drew.cell? ⟨g5, k * 3, none⟩ = some (.int .i64 x1) ∧ W.drew.cell? ⟨g5, k * 3 + 1, none⟩ = some (.int .i64 x2) ∧ W.drew.cell? ⟨g5, k * 3 + 2, none⟩ = some (.bool xb) ∧ W.drew.cell? ⟨Bx, 0, none⟩ = some (.int .i64 x1) ∧ W.drew.cell? ⟨Bx, 1, none⟩ = some (.int .i64 x2)) (hb : W.drew.cell? ⟨bo, 0, none⟩ = some (.bool true)) (hz : W.drew.frozen? ⟨bo, 0, none⟩ = false) (hd : N ≠ bo ∧ bw ≠ bo ∧ g5 ≠ bo ∧ Bx ≠ bo)
    (h : Q .normal { tmps := (t0 :: t1 :: t2 :: t3 :: t4 :: t5 :: t6 :: t7 :: t8 :: t9 :: .pointer (some ⟨bw, 0, none⟩) :: t11 :: .pointer (some ⟨N, 0, none⟩) :: t13 :: .pointer (some ⟨bo, 0, none⟩) :: t15 :: .pointer (some ⟨Bx, 0, none⟩) :: .bool xb :: t18 :: t19 :: t20 :: t21 :: t22 :: t23 :: t24 :: t25 :: t26 :: t27 :: t28 :: t29 :: t30 :: t31 :: t32 :: t33 :: t34 :: t35 :: t36 :: t37 :: t38 :: t39 :: t40 :: t41 :: t42 :: t43 :: t44 :: t45 :: t46 :: t47 :: t48 :: t49 :: t50 :: t51 :: t52 :: t53 :: t54 :: t55 :: t56 :: t57 :: .bool true :: .bool true :: .int .i64 (k : Int) :: .slice (some ⟨g5, 0, none⟩) nL cc5 :: .int .i64 (nL : Int) :: .bool true :: .bool true :: .bool true :: .slice (some ⟨g5, 0, none⟩) nL cc5 :: .int .i64 (k : Int) :: .pointer (some ⟨g5, k * 3, none⟩) :: .agg #[.int .i64 x1, .int .i64 x2, .bool xb] :: .agg #[.int .i64 x1, .int .i64 x2] :: .bool xb :: .agg #[.int .i64 x1, .int .i64 x2, .bool xb] :: .bool true :: .bool true :: t75 :: t76 :: t77 :: t78 :: t79 :: t80 :: t81 :: t82 :: t83 :: t84 :: t85 :: t86 :: t87 :: t88 :: t89 :: t90 :: t91 :: t92 :: t93 :: t94 :: t95 :: t96 :: t97 :: t98 :: t99 :: t100 :: []).toArray, defers := [] } (W.drew.setCell ⟨bo, 0, none⟩ (.bool true))) :
    (Code.region 23 ops23 true).wpIn (Fence.wide.inRound l) n Try.prog Q { tmps := (t0 :: t1 :: t2 :: t3 :: t4 :: t5 :: t6 :: t7 :: t8 :: t9 :: .pointer (some ⟨bw, 0, none⟩) :: t11 :: .pointer (some ⟨N, 0, none⟩) :: t13 :: .pointer (some ⟨bo, 0, none⟩) :: t15 :: .pointer (some ⟨Bx, 0, none⟩) :: .bool xb :: t18 :: t19 :: t20 :: t21 :: t22 :: t23 :: t24 :: t25 :: t26 :: t27 :: t28 :: t29 :: t30 :: t31 :: t32 :: t33 :: t34 :: t35 :: t36 :: t37 :: t38 :: t39 :: t40 :: t41 :: t42 :: t43 :: t44 :: t45 :: t46 :: t47 :: t48 :: t49 :: t50 :: t51 :: t52 :: t53 :: t54 :: t55 :: t56 :: t57 :: t58 :: t59 :: t60 :: t61 :: t62 :: t63 :: t64 :: t65 :: t66 :: t67 :: t68 :: t69 :: t70 :: t71 :: t72 :: t73 :: t74 :: t75 :: t76 :: t77 :: t78 :: t79 :: t80 :: t81 :: t82 :: t83 :: t84 :: t85 :: t86 :: t87 :: t88 :: t89 :: t90 :: t91 :: t92 :: t93 :: t94 :: t95 :: t96 :: t97 :: t98 :: t99 :: t100 :: []).toArray, defers := [] } W := by
  refine wpIn_region_round (fun V => V.cell? ⟨N, 0, none⟩ = some (.int .i64 (k : Int)) ∧ V.cell? ⟨bw, 0, none⟩ = some (.slice (some ⟨g5, 0, none⟩) nL cc5) ∧ V.cell? ⟨g5, k * 3, none⟩ = some (.int .i64 x1) ∧ V.cell? ⟨g5, k * 3 + 1, none⟩ = some (.int .i64 x2) ∧ V.cell? ⟨g5, k * 3 + 2, none⟩ = some (.bool xb) ∧ V.cell? ⟨Bx, 0, none⟩ = some (.int .i64 x1) ∧ V.cell? ⟨Bx, 1, none⟩ = some (.int .i64 x2)) (by kernel_rfl) (by kernel_rfl) hq ?_
  change wpAnyH _ _ _ _ _ _ _ _ W.drew
  have hkz : (k : Int) < (nL : Int) := by omega
  refine wpAnyH_ready (rs := [0]) (by kernel_rfl) (by simp) ?_
  refine AllReadyH.cons (o := { dst := some 58, op := Op.load 4 (Operand.tmp 14), type := 4, pos := "law.go:230", after := #[], guard := none }) rfl (fun K hK => ?_) AllReadyH.nil
  go_simp
  refine hK.out _ _ hS (fun _ => ?_)
  clear hK K
  try simp only [Act.put, List.setIfInBounds_toArray, List.set_cons_zero, List.set_cons_succ]
  refine wpAnyH_take (i := 1) (oi := { dst := some 59, op := Op.move (Operand.tmp 58), type := 4, pos := "law.go:230", after := #[{ on := 0, ground := Ground.data }], guard := none }) (v := .bool true) rfl (by kernel_rfl) (by kernel_rfl) (by kernel_rfl) (fun _ _ _ h => hp _ _ _ _ h) (.inl ⟨by kernel_rfl, fun V hV => ?_⟩) hS ?_
  · obtain ⟨s1, s2, s3, s4, s5, s6, s7⟩ := hV
    go_simp
  simp only [Act.put, List.setIfInBounds_toArray, List.set_cons_zero, List.set_cons_succ]
  refine wpAnyH_take (i := 2) (oi := { dst := some 60, op := Op.load 3 (Operand.tmp 12), type := 3, pos := "law.go:230", after := #[{ on := 1, ground := Ground.guard }], guard := some (1, true) }) (v := .int .i64 (k : Int)) rfl (by kernel_rfl) (by kernel_rfl) (by kernel_rfl) (fun _ _ _ h => hp _ _ _ _ h) (.inl ⟨by kernel_rfl, fun V hV => ?_⟩) hS ?_
  · obtain ⟨s1, s2, s3, s4, s5, s6, s7⟩ := hV
    go_simp
  simp only [Act.put, List.setIfInBounds_toArray, List.set_cons_zero, List.set_cons_succ]
  refine wpAnyH_take (i := 3) (oi := { dst := some 61, op := Op.load 45 (Operand.tmp 10), type := 45, pos := "law.go:230", after := #[{ on := 1, ground := Ground.guard }], guard := some (1, true) }) (v := .slice (some ⟨g5, 0, none⟩) nL cc5) rfl (by kernel_rfl) (by kernel_rfl) (by kernel_rfl) (fun _ _ _ h => hp _ _ _ _ h) (.inl ⟨by kernel_rfl, fun V hV => ?_⟩) hS ?_
  · obtain ⟨s1, s2, s3, s4, s5, s6, s7⟩ := hV
    go_simp
  simp only [Act.put, List.setIfInBounds_toArray, List.set_cons_zero, List.set_cons_succ]
  refine wpAnyH_take (i := 4) (oi := { dst := some 62, op := Op.call { callee := Callee.builtin Builtin.len, args := #[Operand.tmp 61], argTypes := #[45] }, type := 3, pos := "law.go:230", after := #[{ on := 3, ground := Ground.data }, { on := 1, ground := Ground.guard }], guard := some (1, true) }) (v := .int .i64 (nL : Int)) rfl (by kernel_rfl) (by kernel_rfl) (by kernel_rfl) (fun _ _ _ h => hp _ _ _ _ h) (.inl ⟨by kernel_rfl, fun V hV => ?_⟩) hS ?_
  · obtain ⟨s1, s2, s3, s4, s5, s6, s7⟩ := hV
    go_simp
  simp only [Act.put, List.setIfInBounds_toArray, List.set_cons_zero, List.set_cons_succ]
  refine wpAnyH_take (i := 5) (oi := { dst := some 63, op := Op.binOp BinOp.lss 3 (Operand.tmp 60) (Operand.tmp 62) 3, type := 4, pos := "law.go:230", after := #[{ on := 2, ground := Ground.data }, { on := 4, ground := Ground.data }, { on := 1, ground := Ground.guard }], guard := some (1, true) }) (v := .bool true) rfl (by kernel_rfl) (by kernel_rfl) (by kernel_rfl) (fun _ _ _ h => hp _ _ _ _ h) (.inl ⟨by kernel_rfl, fun V hV => ?_⟩) hS ?_
  · obtain ⟨s1, s2, s3, s4, s5, s6, s7⟩ := hV
    go_simp
  simp only [Act.put, List.setIfInBounds_toArray, List.set_cons_zero, List.set_cons_succ]
  refine wpAnyH_take (i := 6) (oi := { dst := some 64, op := Op.pick (Operand.tmp 59) (Operand.tmp 63) (Operand.const (Value.bool false)), type := 4, pos := "law.go:230", after := #[{ on := 1, ground := Ground.data }, { on := 5, ground := Ground.data }], guard := none }) (v := .bool true) rfl (by kernel_rfl) (by kernel_rfl) (by kernel_rfl) (fun _ _ _ h => hp _ _ _ _ h) (.inl ⟨by kernel_rfl, fun V hV => ?_⟩) hS ?_
  · obtain ⟨s1, s2, s3, s4, s5, s6, s7⟩ := hV
    go_simp
  simp only [Act.put, List.setIfInBounds_toArray, List.set_cons_zero, List.set_cons_succ]
  refine wpAnyH_take (i := 7) (oi := { dst := some 65, op := Op.move (Operand.tmp 64), type := 4, pos := "law.go:230", after := #[{ on := 6, ground := Ground.data }, { on := 1, ground := Ground.chain }], guard := none }) (v := .bool true) rfl (by kernel_rfl) (by kernel_rfl) (by kernel_rfl) (fun _ _ _ h => hp _ _ _ _ h) (.inl ⟨by kernel_rfl, fun V hV => ?_⟩) hS ?_
  · obtain ⟨s1, s2, s3, s4, s5, s6, s7⟩ := hV
    go_simp
  simp only [Act.put, List.setIfInBounds_toArray, List.set_cons_zero, List.set_cons_succ]
  refine wpAnyH_take (i := 8) (oi := { dst := some 66, op := Op.load 45 (Operand.tmp 10), type := 45, pos := "law.go:230", after := #[{ on := 7, ground := Ground.guard }], guard := some (7, true) }) (v := .slice (some ⟨g5, 0, none⟩) nL cc5) rfl (by kernel_rfl) (by kernel_rfl) (by kernel_rfl) (fun _ _ _ h => hp _ _ _ _ h) (.inl ⟨by kernel_rfl, fun V hV => ?_⟩) hS ?_
  · obtain ⟨s1, s2, s3, s4, s5, s6, s7⟩ := hV
    go_simp
  simp only [Act.put, List.setIfInBounds_toArray, List.set_cons_zero, List.set_cons_succ]
  refine wpAnyH_take (i := 9) (oi := { dst := some 67, op := Op.load 3 (Operand.tmp 12), type := 3, pos := "law.go:230", after := #[{ on := 7, ground := Ground.guard }], guard := some (7, true) }) (v := .int .i64 (k : Int)) rfl (by kernel_rfl) (by kernel_rfl) (by kernel_rfl) (fun _ _ _ h => hp _ _ _ _ h) (.inl ⟨by kernel_rfl, fun V hV => ?_⟩) hS ?_
  · obtain ⟨s1, s2, s3, s4, s5, s6, s7⟩ := hV
    go_simp
  simp only [Act.put, List.setIfInBounds_toArray, List.set_cons_zero, List.set_cons_succ]
  refine wpAnyH_take (i := 10) (oi := { dst := some 68, op := Op.indexAddr 45 (Operand.tmp 66) (Operand.tmp 67), type := 0, pos := "law.go:230", after := #[{ on := 8, ground := Ground.data }, { on := 9, ground := Ground.data }, { on := 7, ground := Ground.guard }], guard := some (7, true) }) (v := .pointer (some ⟨g5, k * 3, none⟩)) rfl (by kernel_rfl) (by kernel_rfl) (by kernel_rfl) (fun _ _ _ h => hp _ _ _ _ h) (.inl ⟨by kernel_rfl, fun V hV => ?_⟩) hS ?_
  · obtain ⟨s1, s2, s3, s4, s5, s6, s7⟩ := hV
    go_simp
  simp only [Act.put, List.setIfInBounds_toArray, List.set_cons_zero, List.set_cons_succ]
  refine wpAnyH_take (i := 11) (oi := { dst := some 69, op := Op.load 48 (Operand.tmp 68), type := 48, pos := "law.go:230", after := #[{ on := 10, ground := Ground.data }, { on := 7, ground := Ground.guard }], guard := some (7, true) }) (v := .agg #[.int .i64 x1, .int .i64 x2, .bool xb]) rfl (by kernel_rfl) (by kernel_rfl) (by kernel_rfl) (fun _ _ _ h => hp _ _ _ _ h) (.inl ⟨by kernel_rfl, fun V hV => ?_⟩) hS ?_
  · obtain ⟨s1, s2, s3, s4, s5, s6, s7⟩ := hV
    go_simp
  simp only [Act.put, List.setIfInBounds_toArray, List.set_cons_zero, List.set_cons_succ]
  refine wpAnyH_take (i := 12) (oi := { dst := some 70, op := Op.load 24 (Operand.tmp 16), type := 24, pos := "law.go:230", after := #[{ on := 7, ground := Ground.guard }], guard := some (7, true) }) (v := .agg #[.int .i64 x1, .int .i64 x2]) rfl (by kernel_rfl) (by kernel_rfl) (by kernel_rfl) (fun _ _ _ h => hp _ _ _ _ h) (.inl ⟨by kernel_rfl, fun V hV => ?_⟩) hS ?_
  · obtain ⟨s1, s2, s3, s4, s5, s6, s7⟩ := hV
    go_simp
  simp only [Act.put, List.setIfInBounds_toArray, List.set_cons_zero, List.set_cons_succ]
  refine wpAnyH_take (i := 13) (oi := { dst := some 71, op := Op.move (Operand.tmp 17), type := 4, pos := "law.go:230", after := #[{ on := 7, ground := Ground.guard }], guard := some (7, true) }) (v := .bool xb) rfl (by kernel_rfl) (by kernel_rfl) (by kernel_rfl) (fun _ _ _ h => hp _ _ _ _ h) (.inl ⟨by kernel_rfl, fun V hV => ?_⟩) hS ?_
  · obtain ⟨s1, s2, s3, s4, s5, s6, s7⟩ := hV
    go_simp
  simp only [Act.put, List.setIfInBounds_toArray, List.set_cons_zero, List.set_cons_succ]
  refine wpAnyH_take (i := 14) (oi := { dst := some 72, op := Op.build 48 #[(0, Operand.tmp 70), (1, Operand.tmp 71)], type := 48, pos := "law.go:230", after := #[{ on := 12, ground := Ground.data }, { on := 13, ground := Ground.data }, { on := 7, ground := Ground.guard }], guard := some (7, true) }) (v := .agg #[.int .i64 x1, .int .i64 x2, .bool xb]) rfl (by kernel_rfl) (by kernel_rfl) (by kernel_rfl) (fun _ _ _ h => hp _ _ _ _ h) (.inl ⟨by kernel_rfl, fun V hV => ?_⟩) hS ?_
  · obtain ⟨s1, s2, s3, s4, s5, s6, s7⟩ := hV
    go_simp
  simp only [Act.put, List.setIfInBounds_toArray, List.set_cons_zero, List.set_cons_succ]
  refine wpAnyH_take (i := 15) (oi := { dst := some 73, op := Op.binOp BinOp.eql 48 (Operand.tmp 69) (Operand.tmp 72) 48, type := 4, pos := "law.go:230", after := #[{ on := 11, ground := Ground.data }, { on := 14, ground := Ground.data }, { on := 7, ground := Ground.guard }], guard := some (7, true) }) (v := .bool true) rfl (by kernel_rfl) (by kernel_rfl) (by kernel_rfl) (fun _ _ _ h => hp _ _ _ _ h) (.inl ⟨by kernel_rfl, fun V hV => ?_⟩) hS ?_
  · obtain ⟨s1, s2, s3, s4, s5, s6, s7⟩ := hV
    go_simp
  simp only [Act.put, List.setIfInBounds_toArray, List.set_cons_zero, List.set_cons_succ]
  refine wpAnyH_take (i := 16) (oi := { dst := some 74, op := Op.pick (Operand.tmp 65) (Operand.tmp 73) (Operand.const (Value.bool false)), type := 4, pos := "law.go:230", after := #[{ on := 7, ground := Ground.data }, { on := 15, ground := Ground.data }], guard := none }) (v := .bool true) rfl (by kernel_rfl) (by kernel_rfl) (by kernel_rfl) (fun _ _ _ h => hp _ _ _ _ h) (.inl ⟨by kernel_rfl, fun V hV => ?_⟩) hS ?_
  · obtain ⟨s1, s2, s3, s4, s5, s6, s7⟩ := hV
    go_simp
  simp only [Act.put, List.setIfInBounds_toArray, List.set_cons_zero, List.set_cons_succ]
  refine wpAnyH_ready (rs := [17]) (by kernel_rfl) (by simp) ?_
  refine AllReadyH.cons (o := { dst := none, op := Op.store 4 (Operand.tmp 14) (Operand.tmp 74), type := 0, pos := "law.go:230", after := #[{ on := 16, ground := Ground.data }, { on := 7, ground := Ground.chain }, { on := 0, ground := Ground.phase }, { on := 1, ground := Ground.phase }, { on := 2, ground := Ground.phase }, { on := 3, ground := Ground.phase }, { on := 4, ground := Ground.phase }, { on := 5, ground := Ground.phase }, { on := 6, ground := Ground.phase }, { on := 7, ground := Ground.phase }, { on := 8, ground := Ground.phase }, { on := 9, ground := Ground.phase }, { on := 10, ground := Ground.phase }, { on := 11, ground := Ground.phase }, { on := 12, ground := Ground.phase }, { on := 13, ground := Ground.phase }, { on := 14, ground := Ground.phase }, { on := 15, ground := Ground.phase }, { on := 16, ground := Ground.phase }], guard := none }) rfl (fun K hK => ?_) AllReadyH.nil
  go_simp
  have hc : ∀ b, b ≠ bo → ∀ j, (W.drew.setCell ⟨bo, 0, none⟩ (.bool true)).cell? ⟨b, j, none⟩ = W.drew.cell? ⟨b, j, none⟩ := fun b hb2 j => World.cell?_of_block (heap_setCell_other _ _ _ _ hb2)
  obtain ⟨s1, s2, s3, s4, s5, s6, s7⟩ := hS
  refine hK.out _ _ ⟨(hc _ hd.1 _).trans s1, (hc _ hd.2.1 _).trans s2, (hc _ hd.2.2.1 _).trans s3, (hc _ hd.2.2.1 _).trans s4, (hc _ hd.2.2.1 _).trans s5, (hc _ hd.2.2.2 _).trans s6, (hc _ hd.2.2.2 _).trans s7⟩ (fun _ => ?_)
  clear hK K
  try simp only [Act.put, List.setIfInBounds_toArray, List.set_cons_zero, List.set_cons_succ]
  exact wpAnyH_done (by kernel_rfl) h _

set_option maxRecDepth 100000 in
set_option maxHeartbeats 4000000 in
theorem reg23_D (l n : Nat) (Q : Exit → Act → World → Prop) (hq : ¬ LetsOut Q) (hp : ∀ c a a' w, Q (.panic c) a w → Q (.panic c) a' w) (bo N bw g5 nL cc5 k Bx : Nat) (x1 x2 : Int) (xb : Bool) (y1 y2 : Int) (yb : Bool) {t0 t1 t2 t3 t4 t5 t6 t7 t8 t9 t11 t13 t15 t18 t19 t20 t21 t22 t23 t24 t25 t26 t27 t28 t29 t30 t31 t32 t33 t34 t35 t36 t37 t38 t39 t40 t41 t42 t43 t44 t45 t46 t47 t48 t49 t50 t51 t52 t53 t54 t55 t56 t57 t58 t59 t60 t61 t62 t63 t64 t65 t66 t67 t68 t69 t70 t71 t72 t73 t74 t75 t76 t77 t78 t79 t80 t81 t82 t83 t84 t85 t86 t87 t88 t89 t90 t91 t92 t93 t94 t95 t96 t97 t98 t99 t100 : Value} (W : World) (hk : k < nL) (hne : ¬ (y1 = x1 ∧ y2 = x2 ∧ yb = xb))
    (hS : W.drew.cell? ⟨N, 0, none⟩ = some (.int .i64 (k : Int)) ∧ W.drew.cell? ⟨bw, 0, none⟩ = some (.slice (some ⟨g5, 0, none⟩) nL cc5) ∧ W.drew.cell? ⟨g5, k * 3, none⟩ = some (.int .i64 y1) ∧ W.drew.cell? ⟨g5, k * 3 + 1, none⟩ = some (.int .i64 y2) ∧ W.drew.cell? ⟨g5, k * 3 + 2, none⟩ = some (.bool yb) ∧ W.drew.cell? ⟨Bx, 0, none⟩ = some (.int .i64 x1) ∧ W.drew.cell? ⟨Bx, 1, none⟩ = some (.int .i64 x2)) (hb : W.drew.cell? ⟨bo, 0, none⟩ = some (.bool true)) (hz : W.drew.frozen? ⟨bo, 0, none⟩ = false) (hd : N ≠ bo ∧ bw ≠ bo ∧ g5 ≠ bo ∧ Bx ≠ bo)
    (h : Q .normal { tmps := (t0 :: t1 :: t2 :: t3 :: t4 :: t5 :: t6 :: t7 :: t8 :: t9 :: .pointer (some ⟨bw, 0, none⟩) :: t11 :: .pointer (some ⟨N, 0, none⟩) :: t13 :: .pointer (some ⟨bo, 0, none⟩) :: t15 :: .pointer (some ⟨Bx, 0, none⟩) :: .bool xb :: t18 :: t19 :: t20 :: t21 :: t22 :: t23 :: t24 :: t25 :: t26 :: t27 :: t28 :: t29 :: t30 :: t31 :: t32 :: t33 :: t34 :: t35 :: t36 :: t37 :: t38 :: t39 :: t40 :: t41 :: t42 :: t43 :: t44 :: t45 :: t46 :: t47 :: t48 :: t49 :: t50 :: t51 :: t52 :: t53 :: t54 :: t55 :: t56 :: t57 :: .bool true :: .bool true :: .int .i64 (k : Int) :: .slice (some ⟨g5, 0, none⟩) nL cc5 :: .int .i64 (nL : Int) :: .bool true :: .bool true :: .bool true :: .slice (some ⟨g5, 0, none⟩) nL cc5 :: .int .i64 (k : Int) :: .pointer (some ⟨g5, k * 3, none⟩) :: .agg #[.int .i64 y1, .int .i64 y2, .bool yb] :: .agg #[.int .i64 x1, .int .i64 x2] :: .bool xb :: .agg #[.int .i64 x1, .int .i64 x2, .bool xb] :: .bool false :: .bool false :: t75 :: t76 :: t77 :: t78 :: t79 :: t80 :: t81 :: t82 :: t83 :: t84 :: t85 :: t86 :: t87 :: t88 :: t89 :: t90 :: t91 :: t92 :: t93 :: t94 :: t95 :: t96 :: t97 :: t98 :: t99 :: t100 :: []).toArray, defers := [] } (W.drew.setCell ⟨bo, 0, none⟩ (.bool false))) :
    (Code.region 23 ops23 true).wpIn (Fence.wide.inRound l) n Try.prog Q { tmps := (t0 :: t1 :: t2 :: t3 :: t4 :: t5 :: t6 :: t7 :: t8 :: t9 :: .pointer (some ⟨bw, 0, none⟩) :: t11 :: .pointer (some ⟨N, 0, none⟩) :: t13 :: .pointer (some ⟨bo, 0, none⟩) :: t15 :: .pointer (some ⟨Bx, 0, none⟩) :: .bool xb :: t18 :: t19 :: t20 :: t21 :: t22 :: t23 :: t24 :: t25 :: t26 :: t27 :: t28 :: t29 :: t30 :: t31 :: t32 :: t33 :: t34 :: t35 :: t36 :: t37 :: t38 :: t39 :: t40 :: t41 :: t42 :: t43 :: t44 :: t45 :: t46 :: t47 :: t48 :: t49 :: t50 :: t51 :: t52 :: t53 :: t54 :: t55 :: t56 :: t57 :: t58 :: t59 :: t60 :: t61 :: t62 :: t63 :: t64 :: t65 :: t66 :: t67 :: t68 :: t69 :: t70 :: t71 :: t72 :: t73 :: t74 :: t75 :: t76 :: t77 :: t78 :: t79 :: t80 :: t81 :: t82 :: t83 :: t84 :: t85 :: t86 :: t87 :: t88 :: t89 :: t90 :: t91 :: t92 :: t93 :: t94 :: t95 :: t96 :: t97 :: t98 :: t99 :: t100 :: []).toArray, defers := [] } W := by
  refine wpIn_region_round (fun V => V.cell? ⟨N, 0, none⟩ = some (.int .i64 (k : Int)) ∧ V.cell? ⟨bw, 0, none⟩ = some (.slice (some ⟨g5, 0, none⟩) nL cc5) ∧ V.cell? ⟨g5, k * 3, none⟩ = some (.int .i64 y1) ∧ V.cell? ⟨g5, k * 3 + 1, none⟩ = some (.int .i64 y2) ∧ V.cell? ⟨g5, k * 3 + 2, none⟩ = some (.bool yb) ∧ V.cell? ⟨Bx, 0, none⟩ = some (.int .i64 x1) ∧ V.cell? ⟨Bx, 1, none⟩ = some (.int .i64 x2)) (by kernel_rfl) (by kernel_rfl) hq ?_
  change wpAnyH _ _ _ _ _ _ _ _ W.drew
  have hkz : (k : Int) < (nL : Int) := by omega
  refine wpAnyH_ready (rs := [0]) (by kernel_rfl) (by simp) ?_
  refine AllReadyH.cons (o := { dst := some 58, op := Op.load 4 (Operand.tmp 14), type := 4, pos := "law.go:230", after := #[], guard := none }) rfl (fun K hK => ?_) AllReadyH.nil
  go_simp
  refine hK.out _ _ hS (fun _ => ?_)
  clear hK K
  try simp only [Act.put, List.setIfInBounds_toArray, List.set_cons_zero, List.set_cons_succ]
  refine wpAnyH_take (i := 1) (oi := { dst := some 59, op := Op.move (Operand.tmp 58), type := 4, pos := "law.go:230", after := #[{ on := 0, ground := Ground.data }], guard := none }) (v := .bool true) rfl (by kernel_rfl) (by kernel_rfl) (by kernel_rfl) (fun _ _ _ h => hp _ _ _ _ h) (.inl ⟨by kernel_rfl, fun V hV => ?_⟩) hS ?_
  · obtain ⟨s1, s2, s3, s4, s5, s6, s7⟩ := hV
    go_simp
  simp only [Act.put, List.setIfInBounds_toArray, List.set_cons_zero, List.set_cons_succ]
  refine wpAnyH_take (i := 2) (oi := { dst := some 60, op := Op.load 3 (Operand.tmp 12), type := 3, pos := "law.go:230", after := #[{ on := 1, ground := Ground.guard }], guard := some (1, true) }) (v := .int .i64 (k : Int)) rfl (by kernel_rfl) (by kernel_rfl) (by kernel_rfl) (fun _ _ _ h => hp _ _ _ _ h) (.inl ⟨by kernel_rfl, fun V hV => ?_⟩) hS ?_
  · obtain ⟨s1, s2, s3, s4, s5, s6, s7⟩ := hV
    go_simp
  simp only [Act.put, List.setIfInBounds_toArray, List.set_cons_zero, List.set_cons_succ]
  refine wpAnyH_take (i := 3) (oi := { dst := some 61, op := Op.load 45 (Operand.tmp 10), type := 45, pos := "law.go:230", after := #[{ on := 1, ground := Ground.guard }], guard := some (1, true) }) (v := .slice (some ⟨g5, 0, none⟩) nL cc5) rfl (by kernel_rfl) (by kernel_rfl) (by kernel_rfl) (fun _ _ _ h => hp _ _ _ _ h) (.inl ⟨by kernel_rfl, fun V hV => ?_⟩) hS ?_
  · obtain ⟨s1, s2, s3, s4, s5, s6, s7⟩ := hV
    go_simp
  simp only [Act.put, List.setIfInBounds_toArray, List.set_cons_zero, List.set_cons_succ]
  refine wpAnyH_take (i := 4) (oi := { dst := some 62, op := Op.call { callee := Callee.builtin Builtin.len, args := #[Operand.tmp 61], argTypes := #[45] }, type := 3, pos := "law.go:230", after := #[{ on := 3, ground := Ground.data }, { on := 1, ground := Ground.guard }], guard := some (1, true) }) (v := .int .i64 (nL : Int)) rfl (by kernel_rfl) (by kernel_rfl) (by kernel_rfl) (fun _ _ _ h => hp _ _ _ _ h) (.inl ⟨by kernel_rfl, fun V hV => ?_⟩) hS ?_
  · obtain ⟨s1, s2, s3, s4, s5, s6, s7⟩ := hV
    go_simp
  simp only [Act.put, List.setIfInBounds_toArray, List.set_cons_zero, List.set_cons_succ]
  refine wpAnyH_take (i := 5) (oi := { dst := some 63, op := Op.binOp BinOp.lss 3 (Operand.tmp 60) (Operand.tmp 62) 3, type := 4, pos := "law.go:230", after := #[{ on := 2, ground := Ground.data }, { on := 4, ground := Ground.data }, { on := 1, ground := Ground.guard }], guard := some (1, true) }) (v := .bool true) rfl (by kernel_rfl) (by kernel_rfl) (by kernel_rfl) (fun _ _ _ h => hp _ _ _ _ h) (.inl ⟨by kernel_rfl, fun V hV => ?_⟩) hS ?_
  · obtain ⟨s1, s2, s3, s4, s5, s6, s7⟩ := hV
    go_simp
  simp only [Act.put, List.setIfInBounds_toArray, List.set_cons_zero, List.set_cons_succ]
  refine wpAnyH_take (i := 6) (oi := { dst := some 64, op := Op.pick (Operand.tmp 59) (Operand.tmp 63) (Operand.const (Value.bool false)), type := 4, pos := "law.go:230", after := #[{ on := 1, ground := Ground.data }, { on := 5, ground := Ground.data }], guard := none }) (v := .bool true) rfl (by kernel_rfl) (by kernel_rfl) (by kernel_rfl) (fun _ _ _ h => hp _ _ _ _ h) (.inl ⟨by kernel_rfl, fun V hV => ?_⟩) hS ?_
  · obtain ⟨s1, s2, s3, s4, s5, s6, s7⟩ := hV
    go_simp
  simp only [Act.put, List.setIfInBounds_toArray, List.set_cons_zero, List.set_cons_succ]
  refine wpAnyH_take (i := 7) (oi := { dst := some 65, op := Op.move (Operand.tmp 64), type := 4, pos := "law.go:230", after := #[{ on := 6, ground := Ground.data }, { on := 1, ground := Ground.chain }], guard := none }) (v := .bool true) rfl (by kernel_rfl) (by kernel_rfl) (by kernel_rfl) (fun _ _ _ h => hp _ _ _ _ h) (.inl ⟨by kernel_rfl, fun V hV => ?_⟩) hS ?_
  · obtain ⟨s1, s2, s3, s4, s5, s6, s7⟩ := hV
    go_simp
  simp only [Act.put, List.setIfInBounds_toArray, List.set_cons_zero, List.set_cons_succ]
  refine wpAnyH_take (i := 8) (oi := { dst := some 66, op := Op.load 45 (Operand.tmp 10), type := 45, pos := "law.go:230", after := #[{ on := 7, ground := Ground.guard }], guard := some (7, true) }) (v := .slice (some ⟨g5, 0, none⟩) nL cc5) rfl (by kernel_rfl) (by kernel_rfl) (by kernel_rfl) (fun _ _ _ h => hp _ _ _ _ h) (.inl ⟨by kernel_rfl, fun V hV => ?_⟩) hS ?_
  · obtain ⟨s1, s2, s3, s4, s5, s6, s7⟩ := hV
    go_simp
  simp only [Act.put, List.setIfInBounds_toArray, List.set_cons_zero, List.set_cons_succ]
  refine wpAnyH_take (i := 9) (oi := { dst := some 67, op := Op.load 3 (Operand.tmp 12), type := 3, pos := "law.go:230", after := #[{ on := 7, ground := Ground.guard }], guard := some (7, true) }) (v := .int .i64 (k : Int)) rfl (by kernel_rfl) (by kernel_rfl) (by kernel_rfl) (fun _ _ _ h => hp _ _ _ _ h) (.inl ⟨by kernel_rfl, fun V hV => ?_⟩) hS ?_
  · obtain ⟨s1, s2, s3, s4, s5, s6, s7⟩ := hV
    go_simp
  simp only [Act.put, List.setIfInBounds_toArray, List.set_cons_zero, List.set_cons_succ]
  refine wpAnyH_take (i := 10) (oi := { dst := some 68, op := Op.indexAddr 45 (Operand.tmp 66) (Operand.tmp 67), type := 0, pos := "law.go:230", after := #[{ on := 8, ground := Ground.data }, { on := 9, ground := Ground.data }, { on := 7, ground := Ground.guard }], guard := some (7, true) }) (v := .pointer (some ⟨g5, k * 3, none⟩)) rfl (by kernel_rfl) (by kernel_rfl) (by kernel_rfl) (fun _ _ _ h => hp _ _ _ _ h) (.inl ⟨by kernel_rfl, fun V hV => ?_⟩) hS ?_
  · obtain ⟨s1, s2, s3, s4, s5, s6, s7⟩ := hV
    go_simp
  simp only [Act.put, List.setIfInBounds_toArray, List.set_cons_zero, List.set_cons_succ]
  refine wpAnyH_take (i := 11) (oi := { dst := some 69, op := Op.load 48 (Operand.tmp 68), type := 48, pos := "law.go:230", after := #[{ on := 10, ground := Ground.data }, { on := 7, ground := Ground.guard }], guard := some (7, true) }) (v := .agg #[.int .i64 y1, .int .i64 y2, .bool yb]) rfl (by kernel_rfl) (by kernel_rfl) (by kernel_rfl) (fun _ _ _ h => hp _ _ _ _ h) (.inl ⟨by kernel_rfl, fun V hV => ?_⟩) hS ?_
  · obtain ⟨s1, s2, s3, s4, s5, s6, s7⟩ := hV
    go_simp
  simp only [Act.put, List.setIfInBounds_toArray, List.set_cons_zero, List.set_cons_succ]
  refine wpAnyH_take (i := 12) (oi := { dst := some 70, op := Op.load 24 (Operand.tmp 16), type := 24, pos := "law.go:230", after := #[{ on := 7, ground := Ground.guard }], guard := some (7, true) }) (v := .agg #[.int .i64 x1, .int .i64 x2]) rfl (by kernel_rfl) (by kernel_rfl) (by kernel_rfl) (fun _ _ _ h => hp _ _ _ _ h) (.inl ⟨by kernel_rfl, fun V hV => ?_⟩) hS ?_
  · obtain ⟨s1, s2, s3, s4, s5, s6, s7⟩ := hV
    go_simp
  simp only [Act.put, List.setIfInBounds_toArray, List.set_cons_zero, List.set_cons_succ]
  refine wpAnyH_take (i := 13) (oi := { dst := some 71, op := Op.move (Operand.tmp 17), type := 4, pos := "law.go:230", after := #[{ on := 7, ground := Ground.guard }], guard := some (7, true) }) (v := .bool xb) rfl (by kernel_rfl) (by kernel_rfl) (by kernel_rfl) (fun _ _ _ h => hp _ _ _ _ h) (.inl ⟨by kernel_rfl, fun V hV => ?_⟩) hS ?_
  · obtain ⟨s1, s2, s3, s4, s5, s6, s7⟩ := hV
    go_simp
  simp only [Act.put, List.setIfInBounds_toArray, List.set_cons_zero, List.set_cons_succ]
  refine wpAnyH_take (i := 14) (oi := { dst := some 72, op := Op.build 48 #[(0, Operand.tmp 70), (1, Operand.tmp 71)], type := 48, pos := "law.go:230", after := #[{ on := 12, ground := Ground.data }, { on := 13, ground := Ground.data }, { on := 7, ground := Ground.guard }], guard := some (7, true) }) (v := .agg #[.int .i64 x1, .int .i64 x2, .bool xb]) rfl (by kernel_rfl) (by kernel_rfl) (by kernel_rfl) (fun _ _ _ h => hp _ _ _ _ h) (.inl ⟨by kernel_rfl, fun V hV => ?_⟩) hS ?_
  · obtain ⟨s1, s2, s3, s4, s5, s6, s7⟩ := hV
    go_simp
  simp only [Act.put, List.setIfInBounds_toArray, List.set_cons_zero, List.set_cons_succ]
  refine wpAnyH_take (i := 15) (oi := { dst := some 73, op := Op.binOp BinOp.eql 48 (Operand.tmp 69) (Operand.tmp 72) 48, type := 4, pos := "law.go:230", after := #[{ on := 11, ground := Ground.data }, { on := 14, ground := Ground.data }, { on := 7, ground := Ground.guard }], guard := some (7, true) }) (v := .bool false) rfl (by kernel_rfl) (by kernel_rfl) (by kernel_rfl) (fun _ _ _ h => hp _ _ _ _ h) (.inl ⟨by kernel_rfl, fun V hV => ?_⟩) hS ?_
  · obtain ⟨s1, s2, s3, s4, s5, s6, s7⟩ := hV
    go_simp
    exact fun a b c => hne ⟨a, b, c⟩
  simp only [Act.put, List.setIfInBounds_toArray, List.set_cons_zero, List.set_cons_succ]
  refine wpAnyH_take (i := 16) (oi := { dst := some 74, op := Op.pick (Operand.tmp 65) (Operand.tmp 73) (Operand.const (Value.bool false)), type := 4, pos := "law.go:230", after := #[{ on := 7, ground := Ground.data }, { on := 15, ground := Ground.data }], guard := none }) (v := .bool false) rfl (by kernel_rfl) (by kernel_rfl) (by kernel_rfl) (fun _ _ _ h => hp _ _ _ _ h) (.inl ⟨by kernel_rfl, fun V hV => ?_⟩) hS ?_
  · obtain ⟨s1, s2, s3, s4, s5, s6, s7⟩ := hV
    go_simp
  simp only [Act.put, List.setIfInBounds_toArray, List.set_cons_zero, List.set_cons_succ]
  refine wpAnyH_ready (rs := [17]) (by kernel_rfl) (by simp) ?_
  refine AllReadyH.cons (o := { dst := none, op := Op.store 4 (Operand.tmp 14) (Operand.tmp 74), type := 0, pos := "law.go:230", after := #[{ on := 16, ground := Ground.data }, { on := 7, ground := Ground.chain }, { on := 0, ground := Ground.phase }, { on := 1, ground := Ground.phase }, { on := 2, ground := Ground.phase }, { on := 3, ground := Ground.phase }, { on := 4, ground := Ground.phase }, { on := 5, ground := Ground.phase }, { on := 6, ground := Ground.phase }, { on := 7, ground := Ground.phase }, { on := 8, ground := Ground.phase }, { on := 9, ground := Ground.phase }, { on := 10, ground := Ground.phase }, { on := 11, ground := Ground.phase }, { on := 12, ground := Ground.phase }, { on := 13, ground := Ground.phase }, { on := 14, ground := Ground.phase }, { on := 15, ground := Ground.phase }, { on := 16, ground := Ground.phase }], guard := none }) rfl (fun K hK => ?_) AllReadyH.nil
  go_simp
  have hc : ∀ b, b ≠ bo → ∀ j, (W.drew.setCell ⟨bo, 0, none⟩ (.bool false)).cell? ⟨b, j, none⟩ = W.drew.cell? ⟨b, j, none⟩ := fun b hb2 j => World.cell?_of_block (heap_setCell_other _ _ _ _ hb2)
  obtain ⟨s1, s2, s3, s4, s5, s6, s7⟩ := hS
  refine hK.out _ _ ⟨(hc _ hd.1 _).trans s1, (hc _ hd.2.1 _).trans s2, (hc _ hd.2.2.1 _).trans s3, (hc _ hd.2.2.1 _).trans s4, (hc _ hd.2.2.1 _).trans s5, (hc _ hd.2.2.2 _).trans s6, (hc _ hd.2.2.2 _).trans s7⟩ (fun _ => ?_)
  clear hK K
  try simp only [Act.put, List.setIfInBounds_toArray, List.set_cons_zero, List.set_cons_succ]
  exact wpAnyH_done (by kernel_rfl) h _

set_option maxRecDepth 100000 in
set_option maxHeartbeats 4000000 in
theorem reg23_F (l n : Nat) (Q : Exit → Act → World → Prop) (hq : ¬ LetsOut Q) (hp : ∀ c a a' w, Q (.panic c) a w → Q (.panic c) a' w) (bo N bw g5 nL cc5 k Bx : Nat) (x1 x2 : Int) (xb : Bool) (y1 y2 : Int) (yb : Bool) {t0 t1 t2 t3 t4 t5 t6 t7 t8 t9 t11 t13 t15 t18 t19 t20 t21 t22 t23 t24 t25 t26 t27 t28 t29 t30 t31 t32 t33 t34 t35 t36 t37 t38 t39 t40 t41 t42 t43 t44 t45 t46 t47 t48 t49 t50 t51 t52 t53 t54 t55 t56 t57 t58 t59 t60 t61 t62 t63 t64 t65 t66 t67 t68 t69 t70 t71 t72 t73 t74 t75 t76 t77 t78 t79 t80 t81 t82 t83 t84 t85 t86 t87 t88 t89 t90 t91 t92 t93 t94 t95 t96 t97 t98 t99 t100 : Value} (W : World) (hk : k < nL)
    (hS : W.drew.cell? ⟨N, 0, none⟩ = some (.int .i64 (k : Int)) ∧ W.drew.cell? ⟨bw, 0, none⟩ = some (.slice (some ⟨g5, 0, none⟩) nL cc5) ∧ W.drew.cell? ⟨g5, k * 3, none⟩ = some (.int .i64 y1) ∧ W.drew.cell? ⟨g5, k * 3 + 1, none⟩ = some (.int .i64 y2) ∧ W.drew.cell? ⟨g5, k * 3 + 2, none⟩ = some (.bool yb) ∧ W.drew.cell? ⟨Bx, 0, none⟩ = some (.int .i64 x1) ∧ W.drew.cell? ⟨Bx, 1, none⟩ = some (.int .i64 x2)) (hb : W.drew.cell? ⟨bo, 0, none⟩ = some (.bool false)) (hz : W.drew.frozen? ⟨bo, 0, none⟩ = false) (hd : N ≠ bo ∧ bw ≠ bo ∧ g5 ≠ bo ∧ Bx ≠ bo)
    (h : Q .normal { tmps := (t0 :: t1 :: t2 :: t3 :: t4 :: t5 :: t6 :: t7 :: t8 :: t9 :: .pointer (some ⟨bw, 0, none⟩) :: t11 :: .pointer (some ⟨N, 0, none⟩) :: t13 :: .pointer (some ⟨bo, 0, none⟩) :: t15 :: .pointer (some ⟨Bx, 0, none⟩) :: .bool xb :: t18 :: t19 :: t20 :: t21 :: t22 :: t23 :: t24 :: t25 :: t26 :: t27 :: t28 :: t29 :: t30 :: t31 :: t32 :: t33 :: t34 :: t35 :: t36 :: t37 :: t38 :: t39 :: t40 :: t41 :: t42 :: t43 :: t44 :: t45 :: t46 :: t47 :: t48 :: t49 :: t50 :: t51 :: t52 :: t53 :: t54 :: t55 :: t56 :: t57 :: .bool false :: .bool false :: undef :: undef :: undef :: undef :: .bool false :: .bool false :: undef :: undef :: undef :: undef :: undef :: undef :: undef :: undef :: .bool false :: t75 :: t76 :: t77 :: t78 :: t79 :: t80 :: t81 :: t82 :: t83 :: t84 :: t85 :: t86 :: t87 :: t88 :: t89 :: t90 :: t91 :: t92 :: t93 :: t94 :: t95 :: t96 :: t97 :: t98 :: t99 :: t100 :: []).toArray, defers := [] } (W.drew.setCell ⟨bo, 0, none⟩ (.bool false))) :
    (Code.region 23 ops23 true).wpIn (Fence.wide.inRound l) n Try.prog Q { tmps := (t0 :: t1 :: t2 :: t3 :: t4 :: t5 :: t6 :: t7 :: t8 :: t9 :: .pointer (some ⟨bw, 0, none⟩) :: t11 :: .pointer (some ⟨N, 0, none⟩) :: t13 :: .pointer (some ⟨bo, 0, none⟩) :: t15 :: .pointer (some ⟨Bx, 0, none⟩) :: .bool xb :: t18 :: t19 :: t20 :: t21 :: t22 :: t23 :: t24 :: t25 :: t26 :: t27 :: t28 :: t29 :: t30 :: t31 :: t32 :: t33 :: t34 :: t35 :: t36 :: t37 :: t38 :: t39 :: t40 :: t41 :: t42 :: t43 :: t44 :: t45 :: t46 :: t47 :: t48 :: t49 :: t50 :: t51 :: t52 :: t53 :: t54 :: t55 :: t56 :: t57 :: t58 :: t59 :: t60 :: t61 :: t62 :: t63 :: t64 :: t65 :: t66 :: t67 :: t68 :: t69 :: t70 :: t71 :: t72 :: t73 :: t74 :: t75 :: t76 :: t77 :: t78 :: t79 :: t80 :: t81 :: t82 :: t83 :: t84 :: t85 :: t86 :: t87 :: t88 :: t89 :: t90 :: t91 :: t92 :: t93 :: t94 :: t95 :: t96 :: t97 :: t98 :: t99 :: t100 :: []).toArray, defers := [] } W := by
  refine wpIn_region_round (fun V => V.cell? ⟨N, 0, none⟩ = some (.int .i64 (k : Int)) ∧ V.cell? ⟨bw, 0, none⟩ = some (.slice (some ⟨g5, 0, none⟩) nL cc5) ∧ V.cell? ⟨g5, k * 3, none⟩ = some (.int .i64 y1) ∧ V.cell? ⟨g5, k * 3 + 1, none⟩ = some (.int .i64 y2) ∧ V.cell? ⟨g5, k * 3 + 2, none⟩ = some (.bool yb) ∧ V.cell? ⟨Bx, 0, none⟩ = some (.int .i64 x1) ∧ V.cell? ⟨Bx, 1, none⟩ = some (.int .i64 x2)) (by kernel_rfl) (by kernel_rfl) hq ?_
  change wpAnyH _ _ _ _ _ _ _ _ W.drew
  have hkz : (k : Int) < (nL : Int) := by omega
  refine wpAnyH_ready (rs := [0]) (by kernel_rfl) (by simp) ?_
  refine AllReadyH.cons (o := { dst := some 58, op := Op.load 4 (Operand.tmp 14), type := 4, pos := "law.go:230", after := #[], guard := none }) rfl (fun K hK => ?_) AllReadyH.nil
  go_simp
  refine hK.out _ _ hS (fun _ => ?_)
  clear hK K
  try simp only [Act.put, List.setIfInBounds_toArray, List.set_cons_zero, List.set_cons_succ]
  refine wpAnyH_take (i := 1) (oi := { dst := some 59, op := Op.move (Operand.tmp 58), type := 4, pos := "law.go:230", after := #[{ on := 0, ground := Ground.data }], guard := none }) (v := .bool false) rfl (by kernel_rfl) (by kernel_rfl) (by kernel_rfl) (fun _ _ _ h => hp _ _ _ _ h) (.inl ⟨by kernel_rfl, fun V hV => ?_⟩) hS ?_
  · obtain ⟨s1, s2, s3, s4, s5, s6, s7⟩ := hV
    go_simp
  simp only [Act.put, List.setIfInBounds_toArray, List.set_cons_zero, List.set_cons_succ]
  refine wpAnyH_take (i := 2) (oi := { dst := some 60, op := Op.load 3 (Operand.tmp 12), type := 3, pos := "law.go:230", after := #[{ on := 1, ground := Ground.guard }], guard := some (1, true) }) (v := undef) rfl (by kernel_rfl) (by kernel_rfl) (by kernel_rfl) (fun _ _ _ h => hp _ _ _ _ h) (.inr ⟨by kernel_rfl, rfl⟩) hS ?_
  simp only [Act.put, List.setIfInBounds_toArray, List.set_cons_zero, List.set_cons_succ]
  refine wpAnyH_take (i := 3) (oi := { dst := some 61, op := Op.load 45 (Operand.tmp 10), type := 45, pos := "law.go:230", after := #[{ on := 1, ground := Ground.guard }], guard := some (1, true) }) (v := undef) rfl (by kernel_rfl) (by kernel_rfl) (by kernel_rfl) (fun _ _ _ h => hp _ _ _ _ h) (.inr ⟨by kernel_rfl, rfl⟩) hS ?_
  simp only [Act.put, List.setIfInBounds_toArray, List.set_cons_zero, List.set_cons_succ]
  refine wpAnyH_take (i := 4) (oi := { dst := some 62, op := Op.call { callee := Callee.builtin Builtin.len, args := #[Operand.tmp 61], argTypes := #[45] }, type := 3, pos := "law.go:230", after := #[{ on := 3, ground := Ground.data }, { on := 1, ground := Ground.guard }], guard := some (1, true) }) (v := undef) rfl (by kernel_rfl) (by kernel_rfl) (by kernel_rfl) (fun _ _ _ h => hp _ _ _ _ h) (.inr ⟨by kernel_rfl, rfl⟩) hS ?_
  simp only [Act.put, List.setIfInBounds_toArray, List.set_cons_zero, List.set_cons_succ]
  refine wpAnyH_take (i := 5) (oi := { dst := some 63, op := Op.binOp BinOp.lss 3 (Operand.tmp 60) (Operand.tmp 62) 3, type := 4, pos := "law.go:230", after := #[{ on := 2, ground := Ground.data }, { on := 4, ground := Ground.data }, { on := 1, ground := Ground.guard }], guard := some (1, true) }) (v := undef) rfl (by kernel_rfl) (by kernel_rfl) (by kernel_rfl) (fun _ _ _ h => hp _ _ _ _ h) (.inr ⟨by kernel_rfl, rfl⟩) hS ?_
  simp only [Act.put, List.setIfInBounds_toArray, List.set_cons_zero, List.set_cons_succ]
  refine wpAnyH_take (i := 6) (oi := { dst := some 64, op := Op.pick (Operand.tmp 59) (Operand.tmp 63) (Operand.const (Value.bool false)), type := 4, pos := "law.go:230", after := #[{ on := 1, ground := Ground.data }, { on := 5, ground := Ground.data }], guard := none }) (v := .bool false) rfl (by kernel_rfl) (by kernel_rfl) (by kernel_rfl) (fun _ _ _ h => hp _ _ _ _ h) (.inl ⟨by kernel_rfl, fun V hV => ?_⟩) hS ?_
  · obtain ⟨s1, s2, s3, s4, s5, s6, s7⟩ := hV
    go_simp
  simp only [Act.put, List.setIfInBounds_toArray, List.set_cons_zero, List.set_cons_succ]
  refine wpAnyH_take (i := 7) (oi := { dst := some 65, op := Op.move (Operand.tmp 64), type := 4, pos := "law.go:230", after := #[{ on := 6, ground := Ground.data }, { on := 1, ground := Ground.chain }], guard := none }) (v := .bool false) rfl (by kernel_rfl) (by kernel_rfl) (by kernel_rfl) (fun _ _ _ h => hp _ _ _ _ h) (.inl ⟨by kernel_rfl, fun V hV => ?_⟩) hS ?_
  · obtain ⟨s1, s2, s3, s4, s5, s6, s7⟩ := hV
    go_simp
  simp only [Act.put, List.setIfInBounds_toArray, List.set_cons_zero, List.set_cons_succ]
  refine wpAnyH_take (i := 8) (oi := { dst := some 66, op := Op.load 45 (Operand.tmp 10), type := 45, pos := "law.go:230", after := #[{ on := 7, ground := Ground.guard }], guard := some (7, true) }) (v := undef) rfl (by kernel_rfl) (by kernel_rfl) (by kernel_rfl) (fun _ _ _ h => hp _ _ _ _ h) (.inr ⟨by kernel_rfl, rfl⟩) hS ?_
  simp only [Act.put, List.setIfInBounds_toArray, List.set_cons_zero, List.set_cons_succ]
  refine wpAnyH_take (i := 9) (oi := { dst := some 67, op := Op.load 3 (Operand.tmp 12), type := 3, pos := "law.go:230", after := #[{ on := 7, ground := Ground.guard }], guard := some (7, true) }) (v := undef) rfl (by kernel_rfl) (by kernel_rfl) (by kernel_rfl) (fun _ _ _ h => hp _ _ _ _ h) (.inr ⟨by kernel_rfl, rfl⟩) hS ?_
  simp only [Act.put, List.setIfInBounds_toArray, List.set_cons_zero, List.set_cons_succ]
  refine wpAnyH_take (i := 10) (oi := { dst := some 68, op := Op.indexAddr 45 (Operand.tmp 66) (Operand.tmp 67), type := 0, pos := "law.go:230", after := #[{ on := 8, ground := Ground.data }, { on := 9, ground := Ground.data }, { on := 7, ground := Ground.guard }], guard := some (7, true) }) (v := undef) rfl (by kernel_rfl) (by kernel_rfl) (by kernel_rfl) (fun _ _ _ h => hp _ _ _ _ h) (.inr ⟨by kernel_rfl, rfl⟩) hS ?_
  simp only [Act.put, List.setIfInBounds_toArray, List.set_cons_zero, List.set_cons_succ]
  refine wpAnyH_take (i := 11) (oi := { dst := some 69, op := Op.load 48 (Operand.tmp 68), type := 48, pos := "law.go:230", after := #[{ on := 10, ground := Ground.data }, { on := 7, ground := Ground.guard }], guard := some (7, true) }) (v := undef) rfl (by kernel_rfl) (by kernel_rfl) (by kernel_rfl) (fun _ _ _ h => hp _ _ _ _ h) (.inr ⟨by kernel_rfl, rfl⟩) hS ?_
  simp only [Act.put, List.setIfInBounds_toArray, List.set_cons_zero, List.set_cons_succ]
  refine wpAnyH_take (i := 12) (oi := { dst := some 70, op := Op.load 24 (Operand.tmp 16), type := 24, pos := "law.go:230", after := #[{ on := 7, ground := Ground.guard }], guard := some (7, true) }) (v := undef) rfl (by kernel_rfl) (by kernel_rfl) (by kernel_rfl) (fun _ _ _ h => hp _ _ _ _ h) (.inr ⟨by kernel_rfl, rfl⟩) hS ?_
  simp only [Act.put, List.setIfInBounds_toArray, List.set_cons_zero, List.set_cons_succ]
  refine wpAnyH_take (i := 13) (oi := { dst := some 71, op := Op.move (Operand.tmp 17), type := 4, pos := "law.go:230", after := #[{ on := 7, ground := Ground.guard }], guard := some (7, true) }) (v := undef) rfl (by kernel_rfl) (by kernel_rfl) (by kernel_rfl) (fun _ _ _ h => hp _ _ _ _ h) (.inr ⟨by kernel_rfl, rfl⟩) hS ?_
  simp only [Act.put, List.setIfInBounds_toArray, List.set_cons_zero, List.set_cons_succ]
  refine wpAnyH_take (i := 14) (oi := { dst := some 72, op := Op.build 48 #[(0, Operand.tmp 70), (1, Operand.tmp 71)], type := 48, pos := "law.go:230", after := #[{ on := 12, ground := Ground.data }, { on := 13, ground := Ground.data }, { on := 7, ground := Ground.guard }], guard := some (7, true) }) (v := undef) rfl (by kernel_rfl) (by kernel_rfl) (by kernel_rfl) (fun _ _ _ h => hp _ _ _ _ h) (.inr ⟨by kernel_rfl, rfl⟩) hS ?_
  simp only [Act.put, List.setIfInBounds_toArray, List.set_cons_zero, List.set_cons_succ]
  refine wpAnyH_take (i := 15) (oi := { dst := some 73, op := Op.binOp BinOp.eql 48 (Operand.tmp 69) (Operand.tmp 72) 48, type := 4, pos := "law.go:230", after := #[{ on := 11, ground := Ground.data }, { on := 14, ground := Ground.data }, { on := 7, ground := Ground.guard }], guard := some (7, true) }) (v := undef) rfl (by kernel_rfl) (by kernel_rfl) (by kernel_rfl) (fun _ _ _ h => hp _ _ _ _ h) (.inr ⟨by kernel_rfl, rfl⟩) hS ?_
  simp only [Act.put, List.setIfInBounds_toArray, List.set_cons_zero, List.set_cons_succ]
  refine wpAnyH_take (i := 16) (oi := { dst := some 74, op := Op.pick (Operand.tmp 65) (Operand.tmp 73) (Operand.const (Value.bool false)), type := 4, pos := "law.go:230", after := #[{ on := 7, ground := Ground.data }, { on := 15, ground := Ground.data }], guard := none }) (v := .bool false) rfl (by kernel_rfl) (by kernel_rfl) (by kernel_rfl) (fun _ _ _ h => hp _ _ _ _ h) (.inl ⟨by kernel_rfl, fun V hV => ?_⟩) hS ?_
  · obtain ⟨s1, s2, s3, s4, s5, s6, s7⟩ := hV
    go_simp
  simp only [Act.put, List.setIfInBounds_toArray, List.set_cons_zero, List.set_cons_succ]
  refine wpAnyH_ready (rs := [17]) (by kernel_rfl) (by simp) ?_
  refine AllReadyH.cons (o := { dst := none, op := Op.store 4 (Operand.tmp 14) (Operand.tmp 74), type := 0, pos := "law.go:230", after := #[{ on := 16, ground := Ground.data }, { on := 7, ground := Ground.chain }, { on := 0, ground := Ground.phase }, { on := 1, ground := Ground.phase }, { on := 2, ground := Ground.phase }, { on := 3, ground := Ground.phase }, { on := 4, ground := Ground.phase }, { on := 5, ground := Ground.phase }, { on := 6, ground := Ground.phase }, { on := 7, ground := Ground.phase }, { on := 8, ground := Ground.phase }, { on := 9, ground := Ground.phase }, { on := 10, ground := Ground.phase }, { on := 11, ground := Ground.phase }, { on := 12, ground := Ground.phase }, { on := 13, ground := Ground.phase }, { on := 14, ground := Ground.phase }, { on := 15, ground := Ground.phase }, { on := 16, ground := Ground.phase }], guard := none }) rfl (fun K hK => ?_) AllReadyH.nil
  go_simp
  have hc : ∀ b, b ≠ bo → ∀ j, (W.drew.setCell ⟨bo, 0, none⟩ (.bool false)).cell? ⟨b, j, none⟩ = W.drew.cell? ⟨b, j, none⟩ := fun b hb2 j => World.cell?_of_block (heap_setCell_other _ _ _ _ hb2)
  obtain ⟨s1, s2, s3, s4, s5, s6, s7⟩ := hS
  refine hK.out _ _ ⟨(hc _ hd.1 _).trans s1, (hc _ hd.2.1 _).trans s2, (hc _ hd.2.2.1 _).trans s3, (hc _ hd.2.2.1 _).trans s4, (hc _ hd.2.2.1 _).trans s5, (hc _ hd.2.2.2 _).trans s6, (hc _ hd.2.2.2 _).trans s7⟩ (fun _ => ?_)
  clear hK K
  try simp only [Act.put, List.setIfInBounds_toArray, List.set_cons_zero, List.set_cons_succ]
  exact wpAnyH_done (by kernel_rfl) h _

end Go.Proofs.Ytppkdkbdcdjikac
