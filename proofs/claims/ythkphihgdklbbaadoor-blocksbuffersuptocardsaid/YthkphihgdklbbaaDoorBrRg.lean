import Derived.Test.YthkphihgdklbbaaDoorLent4
import Derived.Deep.RegionHeld3
namespace Go.Proofs.YthkphihgdklbbaaDoor.C
open Go.RowKit Go.Shelf
attribute [local go_sem] Oper.semAt_some
set_option linter.unusedVariables false
set_option linter.unusedSimpArgs false

/-- An append of what lies at an address, as one operation of a region that draws. -/
theorem app_op {P : Program} {ops : Array Oper} {Q : Exit → Act → World → Prop} {j : Nat} {K : Act → World → Prop} {a : Act} {w : World} {o : Oper} (hj : ops[j]? = some o) (hgd : o.guard = none) (s x : Operand) (t : TypeId)
    (hop : o.op = Op.call { callee := Callee.builtin Builtin.append, args := #[s, x], argTypes := #[t, t] }) (base : Nat) (e : TypeId) (i : TypeInfo) (z : Value) (size bytes : Nat) (ht : P.underlying t = some (.slice e)) (hi : P.info? e = some i) (hz : i.zero = some z)
    (hsize : i.size = size) (hby : i.bytes = bytes) (hzs : z.cells.size = size) (hsz : 0 < size)
    (v : Value) (n : Nat) (xs : List Value) (hs : a.eval s = v) (hown : w.ownsRow base e size v n xs)
    (ad : Addr) (m c : Nat) (news : List Value) (hx : a.eval x = .slice (some ad) m c) (hl : news.length = m * size) (hnews : ∀ j u, news[j]? = some u → w.cell? (ad.add j) = some u) (h1 : ∀ u ∈ news, u.oneCell' = true)
    (h63 : n + m ≤ maxLen) (hbytes : (n + m) * bytes ≤ 140737488355328) (hbase : base ≤ w.heap.size)
    (hK : ∀ v' w', w'.ownsRow base e size v' (n + m) (xs ++ news) → w.grownBy w' v.ownBlock → (v'.ownBlock = v.ownBlock ∨ v'.ownBlock = some w.heap.size) → K (a.put o.dst v') w') : wpOp P ops Q j K a w := by
  unfold wpOp
  simp only [hj]
  have hw : Region.wanted o (yielded ops a.tmps) = true := by simp [Region.wanted, hgd]
  rw [if_pos hw]
  left
  obtain ⟨v', w', hrun, r2, r3, _, r5⟩ := run_append_own_at (P := P) w base t o.type e i z size bytes ht hi hz hsize hby hzs hsz v n xs hown ad m c news hl hnews h1 h63 hbytes hbase
  unfold Oper.wp
  simp [execOp, hop, resolve, invoke, builtin, hs, hx, hrun, Result.andThen]
  exact hK v' w' r2 r3 r5
theorem br_str4 : (Tryd.prog.info? 9).map (fun i => (i.zero, i.size, i.bytes)) = some (some (.string ByteArray.empty), 1, 16) := by kernel_rfl

def ops37 : Array Oper := #[{ dst := some 199, op := Op.move (Operand.tmp 0), type := 24, pos := "law.go:315", after := #[], guard := none },
  { dst := some 200, op := Op.move (Operand.tmp 0), type := 24, pos := "law.go:315", after := #[], guard := none },
  { dst := some 201, op := Op.nilCheck (Operand.tmp 200), type := 0, pos := "law.go:315", after := #[{ on := 1, ground := Ground.data }], guard := none },
  { dst := some 202, op := Op.fieldAddr 33 (Operand.tmp 201) 3, type := 0, pos := "law.go:315", after := #[{ on := 2, ground := Ground.data }], guard := none },
  { dst := some 203, op := Op.load 30 (Operand.tmp 202), type := 30, pos := "law.go:315", after := #[{ on := 3, ground := Ground.data }], guard := none },
  { dst := some 204, op := Op.move (Operand.tmp 25), type := 36, pos := "law.go:315", after := #[], guard := none },
  { dst := some 205, op := Op.convert 36 9 (Operand.tmp 204), type := 9, pos := "law.go:315", after := #[{ on := 5, ground := Ground.data }], guard := none },
  { dst := some 206, op := Op.move (Operand.tmp 25), type := 36, pos := "law.go:315", after := #[], guard := none },
  { dst := some 207, op := Op.convert 36 9 (Operand.tmp 206), type := 9, pos := "law.go:315", after := #[{ on := 7, ground := Ground.data }], guard := none },
  { dst := some 208, op := Op.buildSlice 30 2 #[(0, Operand.tmp 205), (1, Operand.tmp 207)], type := 30, pos := "law.go:315", after := #[{ on := 6, ground := Ground.data }, { on := 8, ground := Ground.data }], guard := none },
  { dst := some 209, op := Op.call { callee := Callee.builtin Builtin.append, args := #[Operand.tmp 203, Operand.tmp 208], argTypes := #[30, 30] }, type := 30, pos := "law.go:315", after := #[{ on := 4, ground := Ground.data }, { on := 9, ground := Ground.data }], guard := none },
  { dst := some 210, op := Op.nilCheck (Operand.tmp 199), type := 0, pos := "law.go:315", after := #[{ on := 0, ground := Ground.data }, { on := 0, ground := Ground.phase }, { on := 1, ground := Ground.phase }, { on := 2, ground := Ground.phase }, { on := 3, ground := Ground.phase }, { on := 4, ground := Ground.phase }, { on := 5, ground := Ground.phase }, { on := 6, ground := Ground.phase }, { on := 7, ground := Ground.phase }, { on := 8, ground := Ground.phase }, { on := 9, ground := Ground.phase }, { on := 10, ground := Ground.phase }], guard := none },
  { dst := some 211, op := Op.fieldAddr 33 (Operand.tmp 210) 3, type := 0, pos := "law.go:315", after := #[{ on := 11, ground := Ground.data }, { on := 0, ground := Ground.phase }, { on := 1, ground := Ground.phase }, { on := 2, ground := Ground.phase }, { on := 3, ground := Ground.phase }, { on := 4, ground := Ground.phase }, { on := 5, ground := Ground.phase }, { on := 6, ground := Ground.phase }, { on := 7, ground := Ground.phase }, { on := 8, ground := Ground.phase }, { on := 9, ground := Ground.phase }, { on := 10, ground := Ground.phase }], guard := none },
  { dst := none, op := Op.store 30 (Operand.tmp 211) (Operand.tmp 209), type := 0, pos := "law.go:315", after := #[{ on := 12, ground := Ground.data }, { on := 10, ground := Ground.data }, { on := 10, ground := Ground.chain }, { on := 0, ground := Ground.phase }, { on := 1, ground := Ground.phase }, { on := 2, ground := Ground.phase }, { on := 3, ground := Ground.phase }, { on := 4, ground := Ground.phase }, { on := 5, ground := Ground.phase }, { on := 6, ground := Ground.phase }, { on := 7, ground := Ground.phase }, { on := 8, ground := Ground.phase }, { on := 9, ground := Ground.phase }, { on := 10, ground := Ground.phase }], guard := none }]
set_option maxRecDepth 100000 in
set_option maxHeartbeats 4000000 in
theorem reg37 (Q : Exit → Act → World → Prop) (q : Nat) (a3 aW : Option Addr) (N d3 nS cW n : Nat) (s : ByteArray) (bx : Array Value) (xs : List Value) {t1 t2 t3 t4 t5 t6 t7 t8 t9 t10 t11 t12 t13 t14 t15 t16 t17 t18 t19 t20 t21 t22 t23 t24 t26 t27 t28 t29 t30 t31 t32 t33 t34 t35 t36 t37 t38 t39 t40 t41 t42 t43 t44 t45 t46 t47 t48 t49 t50 t51 t52 t53 t54 t55 t56 t57 t58 t59 t60 t61 t62 t63 t64 t65 t66 t67 t68 t69 t70 t71 t72 t73 t74 t75 t76 t77 t78 t79 t80 t81 t82 t83 t84 t85 t86 t87 t88 t89 t90 t91 t92 t93 t94 t95 t96 t97 t98 t99 t100 t101 t102 t103 t104 t105 t106 t107 t108 t109 t110 t111 t112 t113 t114 t115 t116 t117 t118 t119 t120 t121 t122 t123 t124 t125 t126 t127 t128 t129 t130 t131 t132 t133 t134 t135 t136 t137 t138 t139 t140 t141 t142 t143 t144 t145 t146 t147 t148 t149 t150 t151 t152 t153 t154 t155 t156 t157 t158 t159 t160 t161 t162 t163 t164 t165 t166 t167 t168 t169 t170 t171 t172 t173 t174 t175 t176 t177 t178 t179 t180 t181 t182 t183 t184 t185 t186 t187 t188 t189 t190 t191 t192 t193 t194 t195 t196 t197 t198 t199 t200 t201 t202 t203 t204 t205 t206 t207 t208 t209 t210 t211 t212 t213 t214 t215 t216 t217 t218 t219 t220 t221 t222 t223 t224 t225 t226 t227 t228 t229 t230 t231 t232 t233 t234 t235 t236 t237 t238 t239 t240 t241 t242 t243 t244 : Value} (W : World)
    (hown : W.ownsRow 0 9 1 (.slice aW nS cW) n xs) (hn : n ≤ 549755813888) (hB : W.heap[q]? = some (.cells bx 33 (0, 0))) (hb5 : bx[5]? = some (.slice aW nS cW)) (hne : ∀ g, (Value.slice aW nS cW).ownBlock = some g → g ≠ q)
    (hcv : ∀ V, W.drew.grownBy V (Value.slice aW nS cW).ownBlock → (convert 36 9 (.slice a3 N d3)).run Tryd.prog V = .ok (.string s) V) (hcw : ∀ V, W.drew.grownBy V (Value.slice aW nS cW).ownBlock → ∀ x, (convert 36 9 (.slice a3 N d3)).run Tryd.prog (V.setCell ⟨q, 5, none⟩ x) = .ok (.string s) (V.setCell ⟨q, 5, none⟩ x))
    (h : ∀ v' w', w'.ownsRow 0 9 1 v' (n + 2) (xs ++ [.string s, .string s]) → W.drew.grownBy w' (Value.slice aW nS cW).ownBlock → (v'.ownBlock = (Value.slice aW nS cW).ownBlock ∨ ∃ g, v'.ownBlock = some g ∧ W.heap.size ≤ g) → w'.heap[q]? = some (.cells bx 33 (0, 0)) → Q .normal { tmps := (.pointer (some ⟨q, 0, none⟩) :: t1 :: t2 :: t3 :: t4 :: t5 :: t6 :: t7 :: t8 :: t9 :: t10 :: t11 :: t12 :: t13 :: t14 :: t15 :: t16 :: t17 :: t18 :: t19 :: t20 :: t21 :: t22 :: t23 :: t24 :: .slice a3 N d3 :: t26 :: t27 :: t28 :: t29 :: t30 :: t31 :: t32 :: t33 :: t34 :: t35 :: t36 :: t37 :: t38 :: t39 :: t40 :: t41 :: t42 :: t43 :: t44 :: t45 :: t46 :: t47 :: t48 :: t49 :: t50 :: t51 :: t52 :: t53 :: t54 :: t55 :: t56 :: t57 :: t58 :: t59 :: t60 :: t61 :: t62 :: t63 :: t64 :: t65 :: t66 :: t67 :: t68 :: t69 :: t70 :: t71 :: t72 :: t73 :: t74 :: t75 :: t76 :: t77 :: t78 :: t79 :: t80 :: t81 :: t82 :: t83 :: t84 :: t85 :: t86 :: t87 :: t88 :: t89 :: t90 :: t91 :: t92 :: t93 :: t94 :: t95 :: t96 :: t97 :: t98 :: t99 :: t100 :: t101 :: t102 :: t103 :: t104 :: t105 :: t106 :: t107 :: t108 :: t109 :: t110 :: t111 :: t112 :: t113 :: t114 :: t115 :: t116 :: t117 :: t118 :: t119 :: t120 :: t121 :: t122 :: t123 :: t124 :: t125 :: t126 :: t127 :: t128 :: t129 :: t130 :: t131 :: t132 :: t133 :: t134 :: t135 :: t136 :: t137 :: t138 :: t139 :: t140 :: t141 :: t142 :: t143 :: t144 :: t145 :: t146 :: t147 :: t148 :: t149 :: t150 :: t151 :: t152 :: t153 :: t154 :: t155 :: t156 :: t157 :: t158 :: t159 :: t160 :: t161 :: t162 :: t163 :: t164 :: t165 :: t166 :: t167 :: t168 :: t169 :: t170 :: t171 :: t172 :: t173 :: t174 :: t175 :: t176 :: t177 :: t178 :: t179 :: t180 :: t181 :: t182 :: t183 :: t184 :: t185 :: t186 :: t187 :: t188 :: t189 :: t190 :: t191 :: t192 :: t193 :: t194 :: t195 :: t196 :: t197 :: t198 :: .pointer (some ⟨q, 0, none⟩) :: .pointer (some ⟨q, 0, none⟩) :: .pointer (some ⟨q, 0, none⟩) :: .pointer (some ⟨q, 5, none⟩) :: .slice aW nS cW :: .slice a3 N d3 :: .string s :: .slice a3 N d3 :: .string s :: .slice (some ⟨W.heap.size, 0, none⟩) 2 2 :: v' :: .pointer (some ⟨q, 0, none⟩) :: .pointer (some ⟨q, 5, none⟩) :: t212 :: t213 :: t214 :: t215 :: t216 :: t217 :: t218 :: t219 :: t220 :: t221 :: t222 :: t223 :: t224 :: t225 :: t226 :: t227 :: t228 :: t229 :: t230 :: t231 :: t232 :: t233 :: t234 :: t235 :: t236 :: t237 :: t238 :: t239 :: t240 :: t241 :: t242 :: t243 :: t244 :: []).toArray, defers := [] } (w'.setCell ⟨q, 5, none⟩ v')) :
    (Code.region 37 ops37 true).wp Tryd.prog Q { tmps := (.pointer (some ⟨q, 0, none⟩) :: t1 :: t2 :: t3 :: t4 :: t5 :: t6 :: t7 :: t8 :: t9 :: t10 :: t11 :: t12 :: t13 :: t14 :: t15 :: t16 :: t17 :: t18 :: t19 :: t20 :: t21 :: t22 :: t23 :: t24 :: .slice a3 N d3 :: t26 :: t27 :: t28 :: t29 :: t30 :: t31 :: t32 :: t33 :: t34 :: t35 :: t36 :: t37 :: t38 :: t39 :: t40 :: t41 :: t42 :: t43 :: t44 :: t45 :: t46 :: t47 :: t48 :: t49 :: t50 :: t51 :: t52 :: t53 :: t54 :: t55 :: t56 :: t57 :: t58 :: t59 :: t60 :: t61 :: t62 :: t63 :: t64 :: t65 :: t66 :: t67 :: t68 :: t69 :: t70 :: t71 :: t72 :: t73 :: t74 :: t75 :: t76 :: t77 :: t78 :: t79 :: t80 :: t81 :: t82 :: t83 :: t84 :: t85 :: t86 :: t87 :: t88 :: t89 :: t90 :: t91 :: t92 :: t93 :: t94 :: t95 :: t96 :: t97 :: t98 :: t99 :: t100 :: t101 :: t102 :: t103 :: t104 :: t105 :: t106 :: t107 :: t108 :: t109 :: t110 :: t111 :: t112 :: t113 :: t114 :: t115 :: t116 :: t117 :: t118 :: t119 :: t120 :: t121 :: t122 :: t123 :: t124 :: t125 :: t126 :: t127 :: t128 :: t129 :: t130 :: t131 :: t132 :: t133 :: t134 :: t135 :: t136 :: t137 :: t138 :: t139 :: t140 :: t141 :: t142 :: t143 :: t144 :: t145 :: t146 :: t147 :: t148 :: t149 :: t150 :: t151 :: t152 :: t153 :: t154 :: t155 :: t156 :: t157 :: t158 :: t159 :: t160 :: t161 :: t162 :: t163 :: t164 :: t165 :: t166 :: t167 :: t168 :: t169 :: t170 :: t171 :: t172 :: t173 :: t174 :: t175 :: t176 :: t177 :: t178 :: t179 :: t180 :: t181 :: t182 :: t183 :: t184 :: t185 :: t186 :: t187 :: t188 :: t189 :: t190 :: t191 :: t192 :: t193 :: t194 :: t195 :: t196 :: t197 :: t198 :: t199 :: t200 :: t201 :: t202 :: t203 :: t204 :: t205 :: t206 :: t207 :: t208 :: t209 :: t210 :: t211 :: t212 :: t213 :: t214 :: t215 :: t216 :: t217 :: t218 :: t219 :: t220 :: t221 :: t222 :: t223 :: t224 :: t225 :: t226 :: t227 :: t228 :: t229 :: t230 :: t231 :: t232 :: t233 :: t234 :: t235 :: t236 :: t237 :: t238 :: t239 :: t240 :: t241 :: t242 :: t243 :: t244 :: []).toArray, defers := [] } W := by
  refine Code.wp_mono (fun _ _ _ h => calmB_le h) ?_
  have hp : ∀ c a a' w, calmB Q (.panic c) a w → calmB Q (.panic c) a' w := fun _ _ _ _ h => h
  refine wp_region_held (S := fun V => (convert 36 9 (.slice a3 N d3)).run Tryd.prog V = .ok (.string s) V) (by kernel_rfl) ?_
  change wpAnyH _ _ _ _ _ _ _ _ W.drew
  have hS : (convert 36 9 (.slice a3 N d3)).run Tryd.prog W.drew = .ok (.string s) W.drew := hcv W.drew ⟨rfl, rfl, rfl, Nat.le_refl _, fun _ _ _ => rfl⟩
  have hb0 : W.drew.cell? ⟨q, 5, none⟩ = some (.slice aW nS cW) := (cell_of_row _ _ 5 _ _ _ (show W.drew.heap[q]? = _ from hB)).trans hb5
  obtain ⟨i0, hi, hz0, hz1, hz2⟩ := info_parts br_str4
  refine wpAnyH_take (i := 0) (oi := { dst := some 199, op := Op.move (Operand.tmp 0), type := 24, pos := "law.go:315", after := #[], guard := none }) (v := .pointer (some ⟨q, 0, none⟩)) rfl (by kernel_rfl) (by kernel_rfl) (by kernel_rfl) (fun _ _ _ h => hp _ _ _ _ h) (.inl ⟨by kernel_rfl, fun V hV => ?_⟩) hS ?_
  · have s0 := hV
    go_simp
  simp only [Act.put, List.setIfInBounds_toArray, List.set_cons_zero, List.set_cons_succ]
  refine wpAnyH_take (i := 1) (oi := { dst := some 200, op := Op.move (Operand.tmp 0), type := 24, pos := "law.go:315", after := #[], guard := none }) (v := .pointer (some ⟨q, 0, none⟩)) rfl (by kernel_rfl) (by kernel_rfl) (by kernel_rfl) (fun _ _ _ h => hp _ _ _ _ h) (.inl ⟨by kernel_rfl, fun V hV => ?_⟩) hS ?_
  · have s0 := hV
    go_simp
  simp only [Act.put, List.setIfInBounds_toArray, List.set_cons_zero, List.set_cons_succ]
  refine wpAnyH_take (i := 2) (oi := { dst := some 201, op := Op.nilCheck (Operand.tmp 200), type := 0, pos := "law.go:315", after := #[{ on := 1, ground := Ground.data }], guard := none }) (v := .pointer (some ⟨q, 0, none⟩)) rfl (by kernel_rfl) (by kernel_rfl) (by kernel_rfl) (fun _ _ _ h => hp _ _ _ _ h) (.inl ⟨by kernel_rfl, fun V hV => ?_⟩) hS ?_
  · have s0 := hV
    go_simp
  simp only [Act.put, List.setIfInBounds_toArray, List.set_cons_zero, List.set_cons_succ]
  refine wpAnyH_take (i := 3) (oi := { dst := some 202, op := Op.fieldAddr 33 (Operand.tmp 201) 3, type := 0, pos := "law.go:315", after := #[{ on := 2, ground := Ground.data }], guard := none }) (v := .pointer (some ⟨q, 5, none⟩)) rfl (by kernel_rfl) (by kernel_rfl) (by kernel_rfl) (fun _ _ _ h => hp _ _ _ _ h) (.inl ⟨by kernel_rfl, fun V hV => ?_⟩) hS ?_
  · have s0 := hV
    go_simp
  simp only [Act.put, List.setIfInBounds_toArray, List.set_cons_zero, List.set_cons_succ]
  refine wpAnyH_take (i := 5) (oi := { dst := some 204, op := Op.move (Operand.tmp 25), type := 36, pos := "law.go:315", after := #[], guard := none }) (v := .slice a3 N d3) rfl (by kernel_rfl) (by kernel_rfl) (by kernel_rfl) (fun _ _ _ h => hp _ _ _ _ h) (.inl ⟨by kernel_rfl, fun V hV => ?_⟩) hS ?_
  · have s0 := hV
    go_simp
  simp only [Act.put, List.setIfInBounds_toArray, List.set_cons_zero, List.set_cons_succ]
  refine wpAnyH_take (i := 7) (oi := { dst := some 206, op := Op.move (Operand.tmp 25), type := 36, pos := "law.go:315", after := #[], guard := none }) (v := .slice a3 N d3) rfl (by kernel_rfl) (by kernel_rfl) (by kernel_rfl) (fun _ _ _ h => hp _ _ _ _ h) (.inl ⟨by kernel_rfl, fun V hV => ?_⟩) hS ?_
  · have s0 := hV
    go_simp
  simp only [Act.put, List.setIfInBounds_toArray, List.set_cons_zero, List.set_cons_succ]
  refine wpAnyH_take (i := 6) (oi := { dst := some 205, op := Op.convert 36 9 (Operand.tmp 204), type := 9, pos := "law.go:315", after := #[{ on := 5, ground := Ground.data }], guard := none }) (v := .string s) rfl (by kernel_rfl) (by kernel_rfl) (by kernel_rfl) (fun _ _ _ h => hp _ _ _ _ h) (.inl ⟨by kernel_rfl, fun V hV => ?_⟩) hS ?_
  · have s0 := hV
    go_simp
  simp only [Act.put, List.setIfInBounds_toArray, List.set_cons_zero, List.set_cons_succ]
  refine wpAnyH_take (i := 8) (oi := { dst := some 207, op := Op.convert 36 9 (Operand.tmp 206), type := 9, pos := "law.go:315", after := #[{ on := 7, ground := Ground.data }], guard := none }) (v := .string s) rfl (by kernel_rfl) (by kernel_rfl) (by kernel_rfl) (fun _ _ _ h => hp _ _ _ _ h) (.inl ⟨by kernel_rfl, fun V hV => ?_⟩) hS ?_
  · have s0 := hV
    go_simp
  simp only [Act.put, List.setIfInBounds_toArray, List.set_cons_zero, List.set_cons_succ]
  refine wpAnyH_ready (rs := [4, 9]) (by kernel_rfl) (by simp) ?_
  refine AllReadyH.cons (o := { dst := some 203, op := Op.load 30 (Operand.tmp 202), type := 30, pos := "law.go:315", after := #[{ on := 3, ground := Ground.data }], guard := none }) rfl (fun K hK => ?_) (AllReadyH.cons (o := { dst := some 208, op := Op.buildSlice 30 2 #[(0, Operand.tmp 205), (1, Operand.tmp 207)], type := 30, pos := "law.go:315", after := #[{ on := 6, ground := Ground.data }, { on := 8, ground := Ground.data }], guard := none }) rfl (fun K hK => ?_) AllReadyH.nil)
  · go_simp
    refine hK.out _ _ hS (fun _ => ?_)
    clear hK K
    try simp only [Act.put, List.setIfInBounds_toArray, List.set_cons_zero, List.set_cons_succ]
    refine wpAnyH_ready (rs := [9]) (by kernel_rfl) (by simp) ?_
    refine AllReadyH.cons (o := { dst := some 208, op := Op.buildSlice 30 2 #[(0, Operand.tmp 205), (1, Operand.tmp 207)], type := 30, pos := "law.go:315", after := #[{ on := 6, ground := Ground.data }, { on := 8, ground := Ground.data }], guard := none }) rfl (fun K hK => ?_) AllReadyH.nil
    go_simp
    refine hK.out _ _ (hcv (W.drew.alloc (.cells #[.string s, .string s] 9)) (World.grownBy_alloc W.drew _ _)) (fun _ => ?_)
    clear hK K
    try simp only [Act.put, List.setIfInBounds_toArray, List.set_cons_zero, List.set_cons_succ]
    refine wpAnyH_all (rs := [10]) (by kernel_rfl) (by simp) ?_
    intro i hi10
    obtain rfl : i = 10 := by simpa using hi10
    refine app_op (j := 10) (o := { dst := some 209, op := Op.call { callee := Callee.builtin Builtin.append, args := #[Operand.tmp 203, Operand.tmp 208], argTypes := #[30, 30] }, type := 30, pos := "law.go:315", after := #[{ on := 4, ground := Ground.data }, { on := 9, ground := Ground.data }], guard := none }) rfl rfl (.tmp 203) (.tmp 208) 30 rfl 0 9 i0 (.string ByteArray.empty) 1 16 Tryd.underlying30 hi hz0 hz1 hz2 rfl (by decide) (.slice aW nS cW) n xs (by simp [Act.eval]) (World.ownsRow.alloc (w := W.drew) hown _) ⟨W.heap.size, 0, none⟩ 2 2 [.string s, .string s] (by simp [Act.eval]) rfl (cell_two_new W.drew _ _ _) (by simp [Value.oneCell']) (by unfold maxLen; omega) (by omega) (Nat.zero_le _) ?_
    intro v' w' r1 r2 r3
    have hgr : W.drew.grownBy w' (Value.slice aW nS cW).ownBlock := (World.grownBy_alloc W.drew _ _).trans r2
    have hQ' : w'.heap[q]? = some (.cells bx 33 (0, 0)) := (hgr.block q (Array.getElem?_eq_some_iff.1 hB).1 (fun e => hne q e.symm rfl)).trans hB
    have hS1 : (convert 36 9 (.slice a3 N d3)).run Tryd.prog w' = .ok (.string s) w' := hcv w' hgr
    refine ⟨hS1, ?_⟩
    have hfz : w'.frozen? ⟨q, 5, none⟩ = false := frozen_of_row _ _ 5 _ _ hQ'
    have hbv : w'.cell? ⟨q, 5, none⟩ = some (.slice aW nS cW) := cell_of_row _ _ 5 _ _ _ hQ' |>.trans hb5
    have hfin := h v' w' r1 hgr (r3.imp id (fun e => ⟨_, e, by simp⟩)) hQ'
    obtain ⟨a1, n1, c1, rfl⟩ : ∃ a n c, v' = .slice a n c := by
      obtain ⟨_, ⟨rfl, _⟩ | ⟨g', cap, cur, rfl, _⟩⟩ := r1
      · exact ⟨_, _, _, rfl⟩
      · exact ⟨_, _, _, rfl⟩
    simp only [Act.put, List.setIfInBounds_toArray, List.set_cons_zero, List.set_cons_succ]
    refine wpAnyH_take (i := 11) (oi := { dst := some 210, op := Op.nilCheck (Operand.tmp 199), type := 0, pos := "law.go:315", after := #[{ on := 0, ground := Ground.data }, { on := 0, ground := Ground.phase }, { on := 1, ground := Ground.phase }, { on := 2, ground := Ground.phase }, { on := 3, ground := Ground.phase }, { on := 4, ground := Ground.phase }, { on := 5, ground := Ground.phase }, { on := 6, ground := Ground.phase }, { on := 7, ground := Ground.phase }, { on := 8, ground := Ground.phase }, { on := 9, ground := Ground.phase }, { on := 10, ground := Ground.phase }], guard := none }) (v := .pointer (some ⟨q, 0, none⟩)) rfl (by kernel_rfl) (by kernel_rfl) (by kernel_rfl) (fun _ _ _ h => hp _ _ _ _ h) (.inl ⟨by kernel_rfl, fun V hV => ?_⟩) hS1 ?_
    · have s0 := hV
      go_simp
    simp only [Act.put, List.setIfInBounds_toArray, List.set_cons_zero, List.set_cons_succ]
    refine wpAnyH_take (i := 12) (oi := { dst := some 211, op := Op.fieldAddr 33 (Operand.tmp 210) 3, type := 0, pos := "law.go:315", after := #[{ on := 11, ground := Ground.data }, { on := 0, ground := Ground.phase }, { on := 1, ground := Ground.phase }, { on := 2, ground := Ground.phase }, { on := 3, ground := Ground.phase }, { on := 4, ground := Ground.phase }, { on := 5, ground := Ground.phase }, { on := 6, ground := Ground.phase }, { on := 7, ground := Ground.phase }, { on := 8, ground := Ground.phase }, { on := 9, ground := Ground.phase }, { on := 10, ground := Ground.phase }], guard := none }) (v := .pointer (some ⟨q, 5, none⟩)) rfl (by kernel_rfl) (by kernel_rfl) (by kernel_rfl) (fun _ _ _ h => hp _ _ _ _ h) (.inl ⟨by kernel_rfl, fun V hV => ?_⟩) hS1 ?_
    · have s0 := hV
      go_simp
    simp only [Act.put, List.setIfInBounds_toArray, List.set_cons_zero, List.set_cons_succ]
    refine wpAnyH_ready (rs := [13]) (by kernel_rfl) (by simp) ?_
    refine AllReadyH.cons (o := { dst := none, op := Op.store 30 (Operand.tmp 211) (Operand.tmp 209), type := 0, pos := "law.go:315", after := #[{ on := 12, ground := Ground.data }, { on := 10, ground := Ground.data }, { on := 10, ground := Ground.chain }, { on := 0, ground := Ground.phase }, { on := 1, ground := Ground.phase }, { on := 2, ground := Ground.phase }, { on := 3, ground := Ground.phase }, { on := 4, ground := Ground.phase }, { on := 5, ground := Ground.phase }, { on := 6, ground := Ground.phase }, { on := 7, ground := Ground.phase }, { on := 8, ground := Ground.phase }, { on := 9, ground := Ground.phase }, { on := 10, ground := Ground.phase }], guard := none }) rfl (fun K hK => ?_) AllReadyH.nil
    go_simp
    refine hK.out _ _ (hcw w' hgr _) (fun _ => ?_)
    clear hK K
    exact wpAnyH_done (Q := calmB Q) (by kernel_rfl) hfin _
  · go_simp
    refine hK.out _ _ (hcv (W.drew.alloc (.cells #[.string s, .string s] 9)) (World.grownBy_alloc W.drew _ _)) (fun _ => ?_)
    clear hK K
    try simp only [Act.put, List.setIfInBounds_toArray, List.set_cons_zero, List.set_cons_succ]
    have hb9 : (W.alloc (.cells #[.string s, .string s] 9)).cell? ⟨q, 5, none⟩ = some (.slice aW nS cW) := (World.cell?_of_block (a := ⟨q, 5, none⟩) (Below.heap_alloc W _ q (Array.getElem?_eq_some_iff.1 hB).1)).trans hb0
    refine wpAnyH_ready (rs := [4]) (by kernel_rfl) (by simp) ?_
    refine AllReadyH.cons (o := { dst := some 203, op := Op.load 30 (Operand.tmp 202), type := 30, pos := "law.go:315", after := #[{ on := 3, ground := Ground.data }], guard := none }) rfl (fun K hK => ?_) AllReadyH.nil
    go_simp
    refine hK.out _ _ (hcv (W.drew.alloc (.cells #[.string s, .string s] 9)) (World.grownBy_alloc W.drew _ _)) (fun _ => ?_)
    clear hK K
    try simp only [Act.put, List.setIfInBounds_toArray, List.set_cons_zero, List.set_cons_succ]
    refine wpAnyH_all (rs := [10]) (by kernel_rfl) (by simp) ?_
    intro i hi10
    obtain rfl : i = 10 := by simpa using hi10
    refine app_op (j := 10) (o := { dst := some 209, op := Op.call { callee := Callee.builtin Builtin.append, args := #[Operand.tmp 203, Operand.tmp 208], argTypes := #[30, 30] }, type := 30, pos := "law.go:315", after := #[{ on := 4, ground := Ground.data }, { on := 9, ground := Ground.data }], guard := none }) rfl rfl (.tmp 203) (.tmp 208) 30 rfl 0 9 i0 (.string ByteArray.empty) 1 16 Tryd.underlying30 hi hz0 hz1 hz2 rfl (by decide) (.slice aW nS cW) n xs (by simp [Act.eval]) (World.ownsRow.alloc (w := W.drew) hown _) ⟨W.heap.size, 0, none⟩ 2 2 [.string s, .string s] (by simp [Act.eval]) rfl (cell_two_new W.drew _ _ _) (by simp [Value.oneCell']) (by unfold maxLen; omega) (by omega) (Nat.zero_le _) ?_
    intro v' w' r1 r2 r3
    have hgr : W.drew.grownBy w' (Value.slice aW nS cW).ownBlock := (World.grownBy_alloc W.drew _ _).trans r2
    have hQ' : w'.heap[q]? = some (.cells bx 33 (0, 0)) := (hgr.block q (Array.getElem?_eq_some_iff.1 hB).1 (fun e => hne q e.symm rfl)).trans hB
    have hS1 : (convert 36 9 (.slice a3 N d3)).run Tryd.prog w' = .ok (.string s) w' := hcv w' hgr
    refine ⟨hS1, ?_⟩
    have hfz : w'.frozen? ⟨q, 5, none⟩ = false := frozen_of_row _ _ 5 _ _ hQ'
    have hbv : w'.cell? ⟨q, 5, none⟩ = some (.slice aW nS cW) := cell_of_row _ _ 5 _ _ _ hQ' |>.trans hb5
    have hfin := h v' w' r1 hgr (r3.imp id (fun e => ⟨_, e, by simp⟩)) hQ'
    obtain ⟨a1, n1, c1, rfl⟩ : ∃ a n c, v' = .slice a n c := by
      obtain ⟨_, ⟨rfl, _⟩ | ⟨g', cap, cur, rfl, _⟩⟩ := r1
      · exact ⟨_, _, _, rfl⟩
      · exact ⟨_, _, _, rfl⟩
    simp only [Act.put, List.setIfInBounds_toArray, List.set_cons_zero, List.set_cons_succ]
    refine wpAnyH_take (i := 11) (oi := { dst := some 210, op := Op.nilCheck (Operand.tmp 199), type := 0, pos := "law.go:315", after := #[{ on := 0, ground := Ground.data }, { on := 0, ground := Ground.phase }, { on := 1, ground := Ground.phase }, { on := 2, ground := Ground.phase }, { on := 3, ground := Ground.phase }, { on := 4, ground := Ground.phase }, { on := 5, ground := Ground.phase }, { on := 6, ground := Ground.phase }, { on := 7, ground := Ground.phase }, { on := 8, ground := Ground.phase }, { on := 9, ground := Ground.phase }, { on := 10, ground := Ground.phase }], guard := none }) (v := .pointer (some ⟨q, 0, none⟩)) rfl (by kernel_rfl) (by kernel_rfl) (by kernel_rfl) (fun _ _ _ h => hp _ _ _ _ h) (.inl ⟨by kernel_rfl, fun V hV => ?_⟩) hS1 ?_
    · have s0 := hV
      go_simp
    simp only [Act.put, List.setIfInBounds_toArray, List.set_cons_zero, List.set_cons_succ]
    refine wpAnyH_take (i := 12) (oi := { dst := some 211, op := Op.fieldAddr 33 (Operand.tmp 210) 3, type := 0, pos := "law.go:315", after := #[{ on := 11, ground := Ground.data }, { on := 0, ground := Ground.phase }, { on := 1, ground := Ground.phase }, { on := 2, ground := Ground.phase }, { on := 3, ground := Ground.phase }, { on := 4, ground := Ground.phase }, { on := 5, ground := Ground.phase }, { on := 6, ground := Ground.phase }, { on := 7, ground := Ground.phase }, { on := 8, ground := Ground.phase }, { on := 9, ground := Ground.phase }, { on := 10, ground := Ground.phase }], guard := none }) (v := .pointer (some ⟨q, 5, none⟩)) rfl (by kernel_rfl) (by kernel_rfl) (by kernel_rfl) (fun _ _ _ h => hp _ _ _ _ h) (.inl ⟨by kernel_rfl, fun V hV => ?_⟩) hS1 ?_
    · have s0 := hV
      go_simp
    simp only [Act.put, List.setIfInBounds_toArray, List.set_cons_zero, List.set_cons_succ]
    refine wpAnyH_ready (rs := [13]) (by kernel_rfl) (by simp) ?_
    refine AllReadyH.cons (o := { dst := none, op := Op.store 30 (Operand.tmp 211) (Operand.tmp 209), type := 0, pos := "law.go:315", after := #[{ on := 12, ground := Ground.data }, { on := 10, ground := Ground.data }, { on := 10, ground := Ground.chain }, { on := 0, ground := Ground.phase }, { on := 1, ground := Ground.phase }, { on := 2, ground := Ground.phase }, { on := 3, ground := Ground.phase }, { on := 4, ground := Ground.phase }, { on := 5, ground := Ground.phase }, { on := 6, ground := Ground.phase }, { on := 7, ground := Ground.phase }, { on := 8, ground := Ground.phase }, { on := 9, ground := Ground.phase }, { on := 10, ground := Ground.phase }], guard := none }) rfl (fun K hK => ?_) AllReadyH.nil
    go_simp
    refine hK.out _ _ (hcw w' hgr _) (fun _ => ?_)
    clear hK K
    exact wpAnyH_done (Q := calmB Q) (by kernel_rfl) hfin _

end Go.Proofs.YthkphihgdklbbaaDoor.C

namespace Go.Proofs.YthkphihgdklbbaaDoor.C
open Go.RowKit Go.Shelf
set_option linter.unusedVariables false
set_option linter.unusedSimpArgs false

/-- Behind the three reads: where each row lies, and whose it is. -/
structure Rp (base : Nat) (w0 w : World) (q : Nat) (B R : Bool → Nat) (b : Bool → Bf) (P : Bool → List Int) (vr vw vs vx : Value) (rs ws ss xs : List Value) (C : Nat → List Int) (S : Nat → List Sp) (L : List Int) (l m x : Value) (own : Nat → Nat) : Prop where
  wo : Wo4 own w q B R b P vr vw vs vx rs ws ss xs C S
  l1 : BO4 w 0 l L
  l2 : ∀ g, l.ownBlock = some g → own g = 20 + 2 * rs.length
  m1 : BO4 w 0 m L
  m2 : ∀ g, m.ownBlock = some g → own g = 20 + 2 * (rs.length + 1)
  x1 : BO4 w 0 x L
  x2 : ∀ g, x.ownBlock = some g → own g = 7
  z : ∀ g, g < base → own g = 0
  sz : base ≤ w.heap.size
  bel : Below base w0 w
theorem bo_below {w w' : World} {v : Value} {L : List Int} (h : BO4 w 0 v L) (hb : Below w.heap.size w w') : BO4 w' 0 v L := h.blk (fun g hg => hb.block g (h.lt g hg).2)

set_option maxHeartbeats 8000000 in
set_option maxRecDepth 100000 in
theorem step_read (base q n : Nat) (kd : Int) (k : Bool) (at' : Int) (ad : Option Addr) (nd cd : Nat) (f t : Int) (w : World) (h : Ws4 base w q n) (hkd : kd = 5) (hnn : n ≤ 274877906944) :
    Calls Tryd.prog 7 #[.pointer (some ⟨q, 0, none⟩), .agg (opC kd k at' ad nd cd f t)] w fun e w' => e = .returned (.bool true) ∧ Ws4 base w' q (n + 1) ∧ Below base w w' := by
  obtain ⟨own, B, R, b, P, vr, vw, vs, vx, rs, ws, ss, xs, C, S, hW0, hl1, hl2, hl3, hl4, hC, hS, h0, hbs⟩ := h
  obtain ⟨gx, hgx⟩ : ∃ g, w.heap.size = g := ⟨_, rfl⟩
  obtain ⟨W, hWe⟩ : ∃ W, w.alloc (.cells #[.int .i64 kd, .bool k, .int .i64 at', .slice ad nd cd, .int .i64 f, .int .i64 t] 40) = W := ⟨_, rfl⟩
  have hbW : Below w.heap.size w W := by rw [← hWe]; exact (Below.refl _ _).alloc (Nat.le_refl _) _
  have hW := hW0.fresh hbW 0
  have hgW : gx < W.heap.size := by rw [← hgx, ← hWe]; simp
  have c0 : W.cell? ⟨gx, 0, none⟩ = some (.int .i64 kd) := by rw [← hWe, ← hgx]; simp
  have c1 : W.cell? ⟨gx, 1, none⟩ = some (.bool k) := by rw [← hWe, ← hgx]; simp
  have c2 : W.cell? ⟨gx, 2, none⟩ = some (.int .i64 at') := by rw [← hWe, ← hgx]; simp
  have c3 : W.cell? ⟨gx, 3, none⟩ = some (.slice ad nd cd) := by rw [← hWe, ← hgx]; simp
  have c4 : W.cell? ⟨gx, 4, none⟩ = some (.int .i64 f) := by rw [← hWe, ← hgx]; simp
  have c5 : W.cell? ⟨gx, 5, none⟩ = some (.int .i64 t) := by rw [← hWe, ← hgx]; simp
  obtain ⟨own1, hown1⟩ : ∃ o, tg own w 0 = o := ⟨_, rfl⟩
  rw [hown1] at hW
  have HWo : Hid (Wo4 own1 W q B R b P vr vw vs vx rs ws ss xs C S) := hW
  have H0 : Hid ((∀ g, g < base → own1 g = 0) ∧ base ≤ w.heap.size ∧ Below w.heap.size w W) := ⟨fun g hg => by rw [← hown1]; exact (tg_old (by omega)).trans (h0 g hg), hbs, hbW⟩
  have HTg : Hid (own1 gx = 0 ∧ gx < W.heap.size ∧ w.heap.size = gx) := ⟨by rw [← hown1, ← hgx]; exact tg_new (Nat.le_refl _), hgW, hgx⟩
  have HL : Hid (rs.length = ws.length ∧ ss.length = xs.length ∧ rs.length ≤ 2 * n ∧ ss.length ≤ 2 * n ∧ (∀ j, (C j).length ≤ 65536) ∧ (∀ j, (S j).length ≤ 2000)) := ⟨hl1, hl2, hl3, hl4, hC, hS⟩
  have HGx : Hid (w.heap.size = gx ∧ w.alloc (.cells #[.int .i64 kd, .bool k, .int .i64 at', .slice ad nd cd, .int .i64 f, .int .i64 t] 40) = W) := ⟨hgx, hWe⟩
  have hbx := hW.x.box
  have HE : Hid (if k = true then W.cell? ⟨q, 1, none⟩ = some (.pointer (some ⟨B k, 0, none⟩)) ∧ W.cell? ⟨q, 3, none⟩ = some (.pointer (some ⟨R k, 0, none⟩)) else W.cell? ⟨q, 0, none⟩ = some (.pointer (some ⟨B k, 0, none⟩)) ∧ W.cell? ⟨q, 2, none⟩ = some (.pointer (some ⟨R k, 0, none⟩))) := by
    cases k
    · exact ⟨cell_of_row _ _ 0 _ _ _ hbx, cell_of_row _ _ 2 _ _ _ hbx⟩
    · exact ⟨cell_of_row _ _ 1 _ _ _ hbx, cell_of_row _ _ 3 _ _ _ hbx⟩
  clear hW hW0 hbW hl1 hl2 hl3 hl4 hC hS h0 hbs hbx hgx hWe hown1
  subst hkd
  obtain ⟨L, hL⟩ : ∃ L, rdL (b k) f t = L := ⟨_, rfl⟩
  obtain ⟨ok, hok⟩ : ∃ o, rdB (b k) f t = o := ⟨_, rfl⟩
  have HLl : Hid (L.length ≤ 65536) := by
    show L.length ≤ 65536
    have h1 := (HWo.out.b.bu k).ok.len
    rw [← hL]; unfold rdL
    split
    · rw [List.length_take, List.length_drop]; omega
    · simp
  have hC : Calls Tryd.prog 16 #[.pointer (some ⟨B k, 0, none⟩), .agg #[.int .i64 f, .int .i64 t]] W fun e w1 => ∃ a1 d1, e = .returned (.tuple #[.slice a1 L.length d1, .bool ok]) ∧ Hid (CK4 gx W w1) ∧ Hid (Calls Tryd.prog 16 #[.pointer (some ⟨B k, 0, none⟩), .agg #[.int .i64 f, .int .i64 t]] w1 fun e w2 => ∃ a2 d2, e = .returned (.tuple #[.slice a2 L.length d2, .bool ok]) ∧ Hid (CK4 gx w1 w2) ∧ Hid (Calls Tryd.prog 29 #[.pointer (some ⟨R k, 0, none⟩), .agg #[.int .i64 f, .int .i64 t]] w2 fun e w3 => ∃ a3 d3, e = .returned (.tuple #[.slice a3 L.length d3, .bool ok]) ∧
      ∃ own5, Hid (Rp base w w3 q B R b P vr vw vs vx rs ws ss xs C S L (.slice a1 L.length d1) (.slice a2 L.length d2) (.slice a3 L.length d3) own5))) := by
    have hbs := H0.out.2.1
    have hsW := H0.out.2.2.size
    have hgl := HTg.out.2.1
    have e1 := read_any _ _ _ f t W (HWo.out.b.bu k)
    unfold RdPost at e1
    rw [hL, hok] at e1
    refine e1.mono ?_
    rintro e w1 ⟨a1, d1, rfl, hS1, hb1⟩
    have hW1 := HWo.out.fresh hb1 (20 + 2 * rs.length)
    have hs1 := hb1.size
    refine ⟨a1, d1, rfl, fun i u hu => cell_bel hb1 hgl hu, ?_⟩
    have e2 := read_any _ _ _ f t w1 (hW1.b.bu k)
    unfold RdPost at e2
    rw [hL, hok] at e2
    refine e2.mono ?_
    rintro e w2 ⟨a2, d2, rfl, hS2, hb2⟩
    have hW2 := hW1.fresh hb2 (20 + 2 * (rs.length + 1))
    have hs2 := hb2.size
    refine ⟨a2, d2, rfl, fun i u hu => cell_bel hb2 (by omega) hu, ?_⟩
    have e3 := readR_any _ _ _ _ f t w2 (hW2.b.rf k) (hW2.b.rel k) (hW2.b.bu k).ok
    unfold RdPost at e3
    rw [hL, hok] at e3
    refine e3.mono ?_
    rintro e w3 ⟨a3, d3, rfl, hS3, hb3⟩
    have hW3 := hW2.fresh hb3 7
    have hs3 := hb3.size
    have l1 : BO4 w1 0 (.slice a1 L.length d1) L := own_base0R hS1
    have m2 : BO4 w2 0 (.slice a2 L.length d2) L := own_base0R hS2
    have x3 : BO4 w3 0 (.slice a3 L.length d3) L := own_base0R hS3
    refine ⟨a3, d3, rfl, _, ⟨hW3, bo_below (bo_below l1 hb2) hb3, fun g hg => ?_, bo_below m2 hb3, fun g hg => ?_, x3, fun g hg => tg_new (World.ownsRow.lt hS3 g hg).1, fun g hg => ?_, by omega, belowDn (belowUp H0.out.2.2 (belowUp hb1 (belowUp hb2 hb3))) hbs⟩⟩
    · have h1 := World.ownsRow.lt hS1 g hg
      exact (tg_old (by omega)).trans ((tg_old h1.2).trans (tg_new h1.1))
    · have h1 := World.ownsRow.lt hS2 g hg
      exact (tg_old h1.2).trans (tg_new h1.1)
    · exact (tg_old (by omega)).trans ((tg_old (by omega)).trans ((tg_old (by omega)).trans (H0.out.1 g hg)))
  obtain ⟨aS, cS, hvs⟩ := own_shape HWo.out.l.r1
  obtain ⟨hl1, hl2, hl3, hl4, hl5, hl6⟩ := HL.out
  have hsb : rs.length ≤ 549755813888 := by omega
  obtain ⟨nS, hnS⟩ : ∃ n, rs.length = n := ⟨_, rfl⟩
  rw [hnS] at hvs hsb
  have HnS : Hid (rs.length = nS ∧ ws.length = nS) := ⟨hnS, by omega⟩
  subst hvs
  obtain ⟨aW, cW, hvw⟩ := own_shape HWo.out.l.w1
  rw [← hl1, hnS] at hvw
  subst hvw
  have HLL : Hid (rs.length = ws.length ∧ ss.length = xs.length ∧ rs.length ≤ 2 * n ∧ ss.length ≤ 2 * n ∧ (∀ j, (C j).length ≤ 65536) ∧ (∀ j, (S j).length ≤ 2000)) := HL.out
  obtain ⟨i1, hi1, hy0, hy1, hy2⟩ := info_parts ob_rows4
  obtain ⟨i2, hi2, hu0, hu1, hu2⟩ := info_parts br_str4
  clear HWo HL H0 HTg hl1 hl2 hl3 hl4 hl5 hl6 hnS hL hok
  generalize hBk : B k = Bk at hC HE
  generalize hRk : R k = Rk at hC HE
  clear hBk hRk
  obtain ⟨N, hN⟩ : ∃ N, L.length = N := ⟨_, rfl⟩
  have HN : Hid (L.length = N) := hN
  rw [hN] at hC
  clear hN
  unfold opC
  cases k <;>
  · have hE := HE.out
    simp only [if_true, Bool.false_eq_true, reduceIte] at hE
    obtain ⟨f0, f1⟩ := hE
    clear HE
    go_enter Tryd.func7, Tryd.ntmps7
    have hWg := HGx.out.2
    have hGg := HGx.out.1
    go_wp2_with (first
      | (go_at_call 16
         first
           | (refine hC.mono ?_
              rintro e w1 ⟨a1, d1, rfl, hc1, h1⟩
              replace c4 := hc1.out _ _ c4
              replace c5 := hc1.out _ _ c5
              clear hC hc1 c0 c1 c2 c3 f0 f1 hgW)
           | (refine h1.out.mono ?_
              rintro e w2 ⟨a2, d2, rfl, hc2, h2⟩
              replace c4 := hc2.out _ _ c4
              replace c5 := hc2.out _ _ c5
              clear h1 hc2))
      | (go_at_call 29
         refine h2.out.mono ?_
         rintro e w5 ⟨a3, d3, rfl, own5, HP⟩
         have e4 : w5.cell? ⟨q, 4, none⟩ = some (.slice aS nS cS) := cell_of_row _ _ 4 _ _ _ HP.out.wo.x.box
         clear h2 c4 c5)
      | (at_builtin; refine wpList_append_own_at _ rfl _ _ 29 rfl 0 36 i1 (.slice none 0 0) 1 24 Tryd.underlying29 hi1 hy0 hy1 hy2 rfl (by decide) (.slice aS nS cS) rs.length rs rfl (World.ownsRow.alloc HP.out.wo.l.r1 _) ⟨w5.heap.size, 0, none⟩ 2 2 [.slice a1 N d1, .slice a2 N d2] rfl rfl (cell_two_new _ _ _ _) (by simp [Value.oneCell']) (by unfold maxLen; have := HnS.out; omega) (by have := HnS.out; omega) (by simp) ?_
         intro v6 w6 hown6 hgrow6 hnil6 hat6; clear hnil6
         obtain ⟨a6, c6, hvv⟩ := own_shape hown6
         obtain ⟨n6, hnn6⟩ : ∃ m, rs.length + 2 = m := ⟨_, rfl⟩
         replace hvv : v6 = Value.slice a6 (rs.length + 2) c6 := hvv
         rw [hnn6] at hvv
         clear hnn6
         subst hvv
         have HG6 : Hid (w5.grownBy w6 (Value.slice aS nS cS).ownBlock) := (World.grownBy_alloc w5 _ _).trans hgrow6
         have HO6 : Hid (w6.ownsRow 0 36 1 (.slice a6 n6 c6) (rs.length + 2) (rs ++ [.slice a1 N d1, .slice a2 N d2])) := hown6
         have HA6 : Hid ((Value.slice a6 n6 c6).ownBlock = (Value.slice aS nS cS).ownBlock ∨ ∃ g, (Value.slice a6 n6 c6).ownBlock = some g ∧ w5.heap.size ≤ g) := hat6.imp id (fun e => ⟨_, e, by simp⟩)
         have HQ6 : Hid (w6.heap[q]? = some (.cells (bxW B R (.slice aS nS cS) (.slice aW nS cW) vs vx) 33 (0, 0))) := (HG6.out.block q HP.out.wo.x.lt (fun e => by have := HP.out.wo.l.r2 q e.symm; rw [HP.out.wo.x.tag] at this; cases this)).trans HP.out.wo.x.box
         have g6 : w6.cell? ⟨q, 4, none⟩ = some (.slice aS nS cS) := cell_of_row _ _ 4 _ _ _ HQ6.out
         have k6 : w6.frozen? ⟨q, 4, none⟩ = false := frozen_of_row _ _ 4 _ _ HQ6.out
         clear hown6 hgrow6 hat6))
    have HP7 : Hid (Wo4 (tg own5 w5 2) (w6.setCell ⟨q, 4, none⟩ (.slice a6 n6 c6)) q B R b P (.slice a6 n6 c6) (.slice aW nS cW) vs vx (rs ++ [.slice a1 N d1, .slice a2 N d2]) ws ss xs (nx C rs.length L) S) :=
      HP.out.wo.pushR HG6.out HO6.out HA6.out (HP.out.l1) (HP.out.l2) (HP.out.m1) (HP.out.m2) (by have := HnS.out; omega)
    have HX7 : Hid (((BO4 (w6.setCell ⟨q, 4, none⟩ (.slice a6 n6 c6)) 0 (.slice a1 N d1) L ∧ ∀ g, (Value.slice a1 N d1).ownBlock = some g → 7 ≤ tg own5 w5 2 g) ∧ (BO4 (w6.setCell ⟨q, 4, none⟩ (.slice a6 n6 c6)) 0 (.slice a2 N d2) L ∧ ∀ g, (Value.slice a2 N d2).ownBlock = some g → 7 ≤ tg own5 w5 2 g) ∧ (BO4 (w6.setCell ⟨q, 4, none⟩ (.slice a6 n6 c6)) 0 (.slice a3 N d3) L ∧ ∀ g, (Value.slice a3 N d3).ownBlock = some g → 7 ≤ tg own5 w5 2 g)) ∧ (∀ g, g < base → tg own5 w5 2 g = 0) ∧ base ≤ (w6.setCell ⟨q, 4, none⟩ (.slice a6 n6 c6)).heap.size ∧ Below base w (w6.setCell ⟨q, 4, none⟩ (.slice a6 n6 c6))) := by
      have hp := HP.out
      have k1 : Kg (fun x => x = 2) own5 w5 w6 := Kg.grown HG6.out hp.wo.l.r2
      have hq : tg own5 w5 2 q = 1 := (tg_old hp.wo.x.lt).trans hp.wo.x.tag
      have k2 : Kg (fun x => x = 1) (tg own5 w5 2) w6 (w6.setCell ⟨q, 4, none⟩ (.slice a6 n6 c6)) := Kg.cell hq
      have hs1 := k1.size
      have hs2 := k2.size
      have hsz := hp.sz
      have z6 : ∀ g, g < base → tg own5 w5 2 g = 0 := fun g hg => (tg_old (by omega)).trans (hp.z g hg)
      have b1 : Below base w5 w6 := ⟨HG6.out.os, HG6.out.tape, HG6.out.output, HG6.out.size, fun g hg => k1.same g (by omega) (by rw [hp.z g hg]; decide)⟩
      have b2 : Below base w6 (w6.setCell ⟨q, 4, none⟩ (.slice a6 n6 c6)) := ⟨rfl, rfl, rfl, k2.size, fun g hg => k2.same g (by omega) (by rw [z6 g hg]; decide)⟩
      have two : ∀ {v : Value} {t : Nat}, BO4 w5 0 v L → (∀ g, v.ownBlock = some g → own5 g = t) → 7 ≤ t → BO4 (w6.setCell ⟨q, 4, none⟩ (.slice a6 n6 c6)) 0 v L ∧ ∀ g, v.ownBlock = some g → 7 ≤ tg own5 w5 2 g := fun {v t} h1 h2 h3 =>
        ⟨row_keep (row_keep h1 h2 k1 (by show ¬ t = 2; omega)) (tag_keep h1 h2 (fun _ => tg_old)) k2 (by show ¬ t = 1; omega), fun g hg => by rw [tag_keep h1 h2 (fun _ => tg_old) g hg]; exact h3⟩
      exact ⟨⟨two hp.l1 hp.l2 (by omega), two hp.m1 hp.m2 (by omega), two hp.x1 hp.x2 (by omega)⟩, z6, by omega, (hp.bel.trans b1).trans b2⟩
    obtain ⟨w7, hw7⟩ : ∃ w7, w6.setCell ⟨q, 4, none⟩ (.slice a6 n6 c6) = w7 := ⟨_, rfl⟩
    obtain ⟨own7, ho7⟩ : ∃ o, tg own5 w5 2 = o := ⟨_, rfl⟩
    rw [hw7, ho7] at HP7 HX7
    rw [hw7]
    clear HG6 HO6 HA6 HQ6 g6 k6 HP hw7 ho7 e4
    have HxN : Hid (nx C rs.length L ws.length = L ∧ nx C rs.length L (ws.length + 1) = L) := ⟨nx_new (by have := HnS.out; omega), nx_new (by have := HnS.out; omega)⟩
    have HKeep : Hid (∀ V, w7.grownBy V (Value.slice aW nS cW).ownBlock → ∀ {v : Value}, BO4 w7 0 v L → (∀ g, v.ownBlock = some g → 7 ≤ own7 g) → BO4 V 0 v L ∧ ∀ x, BO4 (V.setCell ⟨q, 5, none⟩ x) 0 v L) := fun V hV {v} h1 h2 => by
      have hV1 : BO4 V 0 v L := h1.blk (fun g hg => hV.block g (h1.lt g hg).2 (fun e => by have := HP7.out.l.w2 g e.symm; have := h2 g hg; omega))
      refine ⟨hV1, fun x => hV1.blk (fun g hg => heap_setCell_other _ _ _ _ (fun e => by have := h2 g hg; rw [show g = q from e, HP7.out.x.tag] at this; omega))⟩
    refine reg37 _ q a3 aW N d3 nS cW ws.length (strOfNums L) _ ws w7 HP7.out.l.w1 (by have := HnS.out; omega) HP7.out.x.box rfl (fun g hg e => by have := HP7.out.l.w2 g hg; rw [e, HP7.out.x.tag] at this; cases this)
      (fun V hV => convB _ _ _ _ _ HN.out (own_liesB (HN.out ▸ (HKeep.out V ⟨hV.os, hV.tape, hV.output, hV.size, hV.block⟩ HX7.out.1.2.2.1 HX7.out.1.2.2.2).1)))
      (fun V hV x => convB _ _ _ _ _ HN.out (own_liesB (HN.out ▸ (HKeep.out V ⟨hV.os, hV.tape, hV.output, hV.size, hV.block⟩ HX7.out.1.2.2.1 HX7.out.1.2.2.2).2 x))) ?_
    intro v8 w8 hown8 hgrow8 hat8 hq8
    obtain ⟨a8, c8, hvv⟩ := own_shape hown8
    obtain ⟨n8, hnn8⟩ : ∃ m, ws.length + 2 = m := ⟨_, rfl⟩
    replace hvv : v8 = Value.slice a8 (ws.length + 2) c8 := hvv
    rw [hnn8] at hvv
    clear hnn8
    subst hvv
    have HEnd : Hid ((Ws4 base (w8.setCell ⟨q, 5, none⟩ (.slice a8 n8 c8)) q (n + 1) ∧ Below base w (w8.setCell ⟨q, 5, none⟩ (.slice a8 n8 c8))) ∧ BO4 (w8.setCell ⟨q, 5, none⟩ (.slice a8 n8 c8)) 0 (.slice a1 N d1) L ∧ BO4 (w8.setCell ⟨q, 5, none⟩ (.slice a8 n8 c8)) 0 (.slice a2 N d2) L ∧ BO4 (w8.setCell ⟨q, 5, none⟩ (.slice a8 n8 c8)) 0 (.slice a3 N d3) L) := by
      have hg8 : w7.grownBy w8 (Value.slice aW nS cW).ownBlock := ⟨hgrow8.os, hgrow8.tape, hgrow8.output, hgrow8.size, hgrow8.block⟩
      obtain ⟨x1, x3, x4, x5⟩ := HX7.out
      obtain ⟨y1, y2, y3, y4, y5, y6⟩ := HLL.out
      have h9 := HP7.out.pushW hg8 hown8 hat8 (by rw [HxN.out.1]) (by rw [HxN.out.2])
      have k1 : Kg (fun x => x = 3) own7 w7 w8 := Kg.grown hg8 HP7.out.l.w2
      have hq : tg own7 w7 3 q = 1 := (tg_old HP7.out.x.lt).trans HP7.out.x.tag
      have k2 : Kg (fun x => x = 1) (tg own7 w7 3) w8 (w8.setCell ⟨q, 5, none⟩ (.slice a8 n8 c8)) := Kg.cell hq
      have hs1 := k1.size
      have hs2 := k2.size
      have z8 : ∀ g, g < base → tg own7 w7 3 g = 0 := fun g hg => (tg_old (by omega)).trans (x3 g hg)
      have b1 : Below base w7 w8 := ⟨hg8.os, hg8.tape, hg8.output, hg8.size, fun g hg => k1.same g (by omega) (by rw [x3 g hg]; decide)⟩
      have b2 : Below base w8 (w8.setCell ⟨q, 5, none⟩ (.slice a8 n8 c8)) := ⟨rfl, rfl, rfl, k2.size, fun g hg => k2.same g (by omega) (by rw [z8 g hg]; decide)⟩
      refine ⟨⟨⟨_, B, R, b, P, .slice a6 n6 c6, .slice a8 n8 c8, vs, vx, _, _, ss, xs, _, S, h9, by simp [y1], y2, by simp; omega, by omega, fun j => ?_, y6, z8, by omega⟩, (x5.trans b1).trans b2⟩, (HKeep.out _ hg8 x1.1.1 x1.1.2).2 _, (HKeep.out _ hg8 x1.2.1.1 x1.2.1.2).2 _, (HKeep.out _ hg8 x1.2.2.1 x1.2.2.2).2 _⟩
      by_cases e : j < rs.length
      · rw [nx_old e]; exact y5 j
      · rw [nx_new (by omega)]; exact HLl.out
    obtain ⟨w9, hw9⟩ : ∃ w9, w8.setCell ⟨q, 5, none⟩ (.slice a8 n8 c8) = w9 := ⟨_, rfl⟩
    rw [hw9] at HEnd ⊢
    clear hown8 hgrow8 hat8 hq8 HP7 HX7 HKeep hw9
    have kx1 : (convert 36 9 (.slice a1 N d1)).run Tryd.prog w9 = .ok (.string (strOfNums L)) w9 := convB _ _ _ _ _ HN.out (own_liesB (HN.out ▸ HEnd.out.2.1))
    have kx2 : (convert 36 9 (.slice a2 N d2)).run Tryd.prog w9 = .ok (.string (strOfNums L)) w9 := convB _ _ _ _ _ HN.out (own_liesB (HN.out ▸ HEnd.out.2.2.1))
    have kx3 : (convert 36 9 (.slice a3 N d3)).run Tryd.prog w9 = .ok (.string (strOfNums L)) w9 := convB _ _ _ _ _ HN.out (own_liesB (HN.out ▸ HEnd.out.2.2.2))
    go_wp2
    go_ret
    exact ⟨rfl, HEnd.out.1⟩

end Go.Proofs.YthkphihgdklbbaaDoor.C
