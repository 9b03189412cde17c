import Derived.Test.YticdedcgmofpjaaDoorDkPl
namespace Go.Proofs.YticdedcgmofpjaaDoor.K
open Go.RowKit
attribute [local go_sem] Oper.semAt_some
set_option linter.unusedVariables false
set_option linter.unusedSimpArgs false

theorem map_set_same {α β : Type} {f : α → β} {L : List α} {i : Nat} {p x : α} (hp : L[i]? = some p) (h : f x = f p) : (L.set i x).map f = L.map f := by
  rw [List.map_set, h]
  apply List.ext_getElem?
  intro j
  rw [List.getElem?_set]
  by_cases e : i = j
  · subst e
    rw [if_pos rfl, List.getElem?_map, hp]
    have := (List.getElem?_eq_some_iff.mp hp).1
    simp [this]
  · rw [if_neg e]
section
variable {W w' : World} {x g n c i : Nat} {F : Nat → Prop} {D : Dk} {vn vb vs : Value} {L : List Fv} {p : Fv}
/-- A file's bytes, in a row that has grown or is new. -/
theorem Pc.app (h : Pc W x F D vn (.slice (some ⟨g, 0, none⟩) n c) vs L) (hp : L[i]? = some p) {v' : Value} {bs : List Int} (r1 : w'.ownsRow 0 5 1 v' bs.length (bs.map (Value.int .u8))) (r2 : W.grownBy w' p.2.ownBlock) (r3 : ∀ k, v'.ownBlock = some k → p.2.ownBlock = some k ∨ W.heap.size ≤ k) :
    Pc (w'.setCell ⟨g, i, none⟩ v') x (up F W) (D.fs' (D.fs.set i ⟨p.1.nm, bs, p.1.sf⟩)) vn (.slice (some ⟨g, 0, none⟩) n c) vs (L.set i (⟨p.1.nm, bs, p.1.sf⟩, v')) := by
  obtain rfl : L.length = n := by obtain ⟨a, c, e⟩ := d_shape h.rb; simp only [Value.slice.injEq] at e; exact e.2.1.symm
  have hpb := h.byt i p hp
  have kp : ∀ {e : TypeId} {s m : Nat} {u : Value} {xs : List Value}, W.ownsRow 0 e s u m xs → e ≠ 5 → w'.ownsRow 0 e s u m xs := fun h0 he => d_blk h0 (fun k hk => r2.block k (d_lt h0 k hk).2 (fun e2 => d_apart h0 hpb he hk e2.symm))
  have hrb := kp h.rb (by decide)
  have hset : ∀ k, k ≠ g → (w'.setCell ⟨g, i, none⟩ v').heap[k]? = w'.heap[k]? := fun k hk => heap_setCell_other _ _ _ _ hk
  have ka : ∀ {e : TypeId} {s m : Nat} {u : Value} {xs : List Value}, w'.ownsRow 0 e s u m xs → e ≠ 36 → (w'.setCell ⟨g, i, none⟩ v').ownsRow 0 e s u m xs := fun h0 he => d_blk h0 (fun k hk => hset k (fun e2 => d_apart h0 hrb he hk (by rw [e2]; rfl)))
  refine ⟨by rw [List.map_set, h.map]; rfl, ?_, ?_, ?_, ?_, fun j q hq => ?_, fun j k q u b hj hk hg1 hg2 => ?_, .inl h.fx, fun k hk => .inl (h.fn k hk), fun k hk => .inl (h.fb k hk), fun k hk => .inl (h.fs k hk), fun j q k hj hk => ?_⟩
  · exact (hset x (fun e => d_box h.rb h.box (by decide) (by rw [e]; rfl))).trans ((r2.block x h.xlt (fun e => d_box hpb h.box (by decide) e.symm)).trans h.box)
  · rw [List.length_set, map_set_same hp (by rfl)]; exact ka (kp h.rn (by decide)) (by decide)
  · rw [List.length_set, List.map_set]; exact (World.ownsRow.stored hrb i v').1
  · rw [List.length_set, map_set_same hp (by rfl)]; exact ka (kp h.rs (by decide)) (by decide)
  · rcases set_get hq with ⟨rfl, rfl⟩ | ⟨hne, hq'⟩
    · exact ka r1 (by decide)
    · have hb := h.byt j q hq'
      exact ka (d_blk hb (fun k hk => r2.block k (d_lt hb k hk).2 (fun e => hne (h.dis j i q p k hq' hp hk e.symm)))) (by decide)
  · have new : ∀ (j : Nat) q, j ≠ i → L[j]? = some q → q.2.ownBlock = some b → v'.ownBlock = some b → False := fun j q hji hq hg hg' => by
      rcases r3 b hg' with e | e
      · exact hji (h.dis j i q p b hq hp hg e)
      · have := (d_lt (h.byt j q hq) b hg).2
        omega
    rcases set_get hj with ⟨rfl, rfl⟩ | ⟨hne, hj'⟩
    · rcases set_get hk with ⟨rfl, rfl⟩ | ⟨hne2, hk'⟩
      · rfl
      · exact (new k u hne2 hk' hg2 hg1).elim
    · rcases set_get hk with ⟨rfl, rfl⟩ | ⟨hne2, hk'⟩
      · exact (new j q hne hj' hg1 hg2).elim
      · exact h.dis j k q u b hj' hk' hg1 hg2
  · rcases set_get hj with ⟨rfl, rfl⟩ | ⟨hne, hj'⟩
    · exact (r3 k hk).imp (h.fy j p k hp) id
    · exact .inl (h.fy j q k hj' hk)
/-- A file's name. -/
theorem Pc.nam (h : Pc W x F D (.slice (some ⟨g, 0, none⟩) n c) vb vs L) (hp : L[i]? = some p) (s : ByteArray) :
    Pc (W.setCell ⟨g, i, none⟩ (.string s)) x F (D.fs' (D.fs.set i ⟨s, p.1.bs, p.1.sf⟩)) (.slice (some ⟨g, 0, none⟩) n c) vb vs (L.set i (⟨s, p.1.bs, p.1.sf⟩, p.2)) := by
  obtain rfl : L.length = n := by obtain ⟨a, c, e⟩ := d_shape h.rn; simp only [Value.slice.injEq] at e; exact e.2.1.symm
  have hset : ∀ k, k ≠ g → (W.setCell ⟨g, i, none⟩ (.string s)).heap[k]? = W.heap[k]? := fun k hk => heap_setCell_other _ _ _ _ hk
  have ka : ∀ {e : TypeId} {sz m : Nat} {u : Value} {xs : List Value}, W.ownsRow 0 e sz u m xs → e ≠ 9 → (W.setCell ⟨g, i, none⟩ (.string s)).ownsRow 0 e sz u m xs := fun h0 he => d_blk h0 (fun k hk => hset k (fun e2 => d_apart h0 h.rn he hk (by rw [e2]; rfl)))
  refine ⟨by rw [List.map_set, h.map]; rfl, (hset x (fun e => d_box h.rn h.box (by decide) (by rw [e]; rfl))).trans h.box, ?_, ?_, ?_, fun j q hq => ?_, fun j k q u b hj hk hg1 hg2 => ?_, h.fx, h.fn, h.fb, h.fs, fun j q k hj hk => ?_⟩
  · rw [List.length_set, List.map_set]; exact (World.ownsRow.stored h.rn i _).1
  · rw [List.length_set, map_set_same hp (by rfl)]; exact ka h.rb (by decide)
  · rw [List.length_set, map_set_same hp (by rfl)]; exact ka h.rs (by decide)
  · rcases set_get hq with ⟨rfl, rfl⟩ | ⟨hne, hq'⟩
    · exact ka (h.byt j p hp) (by decide)
    · exact ka (h.byt j q hq') (by decide)
  · rcases set_get hj with ⟨rfl, rfl⟩ | ⟨hne, hj'⟩
    · rcases set_get hk with ⟨rfl, rfl⟩ | ⟨hne2, hk'⟩
      · rfl
      · exact h.dis j k p u b hp hk' hg1 hg2
    · rcases set_get hk with ⟨rfl, rfl⟩ | ⟨hne2, hk'⟩
      · exact h.dis j k q p b hj' hp hg1 hg2
      · exact h.dis j k q u b hj' hk' hg1 hg2
  · rcases set_get hj with ⟨rfl, rfl⟩ | ⟨hne, hj'⟩
    · exact h.fy j p k hp hk
    · exact h.fy j q k hj' hk
/-- How much of a file is safe. -/
theorem Pc.saf (h : Pc W x F D vn vb (.slice (some ⟨g, 0, none⟩) n c) L) (hp : L[i]? = some p) (z : Int) :
    Pc (W.setCell ⟨g, i, none⟩ (.int .i64 z)) x F (D.fs' (D.fs.set i ⟨p.1.nm, p.1.bs, z⟩)) vn vb (.slice (some ⟨g, 0, none⟩) n c) (L.set i (⟨p.1.nm, p.1.bs, z⟩, p.2)) := by
  obtain rfl : L.length = n := by obtain ⟨a, c, e⟩ := d_shape h.rs; simp only [Value.slice.injEq] at e; exact e.2.1.symm
  have hset : ∀ k, k ≠ g → (W.setCell ⟨g, i, none⟩ (.int .i64 z)).heap[k]? = W.heap[k]? := fun k hk => heap_setCell_other _ _ _ _ hk
  have ka : ∀ {e : TypeId} {sz m : Nat} {u : Value} {xs : List Value}, W.ownsRow 0 e sz u m xs → e ≠ 3 → (W.setCell ⟨g, i, none⟩ (.int .i64 z)).ownsRow 0 e sz u m xs := fun h0 he => d_blk h0 (fun k hk => hset k (fun e2 => d_apart h0 h.rs he hk (by rw [e2]; rfl)))
  refine ⟨by rw [List.map_set, h.map]; rfl, (hset x (fun e => d_box h.rs h.box (by decide) (by rw [e]; rfl))).trans h.box, ?_, ?_, ?_, fun j q hq => ?_, fun j k q u b hj hk hg1 hg2 => ?_, h.fx, h.fn, h.fb, h.fs, fun j q k hj hk => ?_⟩
  · rw [List.length_set, map_set_same hp (by rfl)]; exact ka h.rn (by decide)
  · rw [List.length_set, map_set_same hp (by rfl)]; exact ka h.rb (by decide)
  · rw [List.length_set, List.map_set]; exact (World.ownsRow.stored h.rs i _).1
  · rcases set_get hq with ⟨rfl, rfl⟩ | ⟨hne, hq'⟩
    · exact ka (h.byt j p hp) (by decide)
    · exact ka (h.byt j q hq') (by decide)
  · rcases set_get hj with ⟨rfl, rfl⟩ | ⟨hne, hj'⟩
    · rcases set_get hk with ⟨rfl, rfl⟩ | ⟨hne2, hk'⟩
      · rfl
      · exact h.dis j k p u b hp hk' hg1 hg2
    · rcases set_get hk with ⟨rfl, rfl⟩ | ⟨hne2, hk'⟩
      · exact h.dis j k q p b hj' hp hg1 hg2
      · exact h.dis j k q u b hj' hk' hg1 hg2
  · rcases set_get hj with ⟨rfl, rfl⟩ | ⟨hne, hj'⟩
    · exact h.fy j p k hp hk
    · exact h.fy j q k hj' hk
end

def regP14Ops : Array Oper := #[{ dst := some 75, op := Op.move (Operand.tmp 0), type := 30, pos := "top01.go:134", after := #[], guard := none },
  { dst := some 76, op := Op.nilCheck (Operand.tmp 75), type := 0, pos := "top01.go:134", after := #[{ on := 0, ground := Ground.data }], guard := none },
  { dst := some 77, op := Op.fieldAddr 35 (Operand.tmp 76) 1, type := 0, pos := "top01.go:134", after := #[{ on := 1, ground := Ground.data }], guard := none },
  { dst := some 78, op := Op.load 32 (Operand.tmp 77), type := 32, pos := "top01.go:134", after := #[{ on := 2, ground := Ground.data }], guard := none },
  { dst := some 79, op := Op.move (Operand.tmp 8), type := 3, pos := "top01.go:134", after := #[], guard := none },
  { dst := some 80, op := Op.move (Operand.tmp 0), type := 30, pos := "top01.go:134", after := #[], guard := none },
  { dst := some 81, op := Op.nilCheck (Operand.tmp 80), type := 0, pos := "top01.go:134", after := #[{ on := 5, ground := Ground.data }], guard := none },
  { dst := some 82, op := Op.fieldAddr 35 (Operand.tmp 81) 1, type := 0, pos := "top01.go:134", after := #[{ on := 6, ground := Ground.data }], guard := none },
  { dst := some 83, op := Op.load 32 (Operand.tmp 82), type := 32, pos := "top01.go:134", after := #[{ on := 7, ground := Ground.data }], guard := none },
  { dst := some 84, op := Op.move (Operand.tmp 8), type := 3, pos := "top01.go:134", after := #[], guard := none },
  { dst := some 85, op := Op.indexAddr 32 (Operand.tmp 83) (Operand.tmp 84), type := 0, pos := "top01.go:134", after := #[{ on := 8, ground := Ground.data }, { on := 9, ground := Ground.data }], guard := none },
  { dst := some 86, op := Op.load 36 (Operand.tmp 85), type := 36, pos := "top01.go:134", after := #[{ on := 10, ground := Ground.data }], guard := none },
  { dst := some 87, op := Op.fieldAddr 38 (Operand.tmp 3) 5, type := 0, pos := "top01.go:134", after := #[], guard := none },
  { dst := some 88, op := Op.load 36 (Operand.tmp 87), type := 36, pos := "top01.go:134", after := #[{ on := 12, ground := Ground.data }], guard := none },
  { dst := some 89, op := Op.call { callee := Callee.builtin Builtin.append, args := #[Operand.tmp 86, Operand.tmp 88], argTypes := #[36, 36] }, type := 36, pos := "top01.go:134", after := #[{ on := 11, ground := Ground.data }, { on := 13, ground := Ground.data }], guard := none },
  { dst := some 90, op := Op.indexAddr 32 (Operand.tmp 78) (Operand.tmp 79), type := 0, pos := "top01.go:134", after := #[{ on := 3, ground := Ground.data }, { on := 4, ground := Ground.data }, { on := 0, ground := Ground.phase }, { on := 1, ground := Ground.phase }, { on := 2, ground := Ground.phase }, { on := 3, ground := Ground.phase }, { on := 4, ground := Ground.phase }, { on := 5, ground := Ground.phase }, { on := 6, ground := Ground.phase }, { on := 7, ground := Ground.phase }, { on := 8, ground := Ground.phase }, { on := 9, ground := Ground.phase }, { on := 10, ground := Ground.phase }, { on := 11, ground := Ground.phase }, { on := 12, ground := Ground.phase }, { on := 13, ground := Ground.phase }, { on := 14, ground := Ground.phase }], guard := none },
  { dst := none, op := Op.store 36 (Operand.tmp 90) (Operand.tmp 89), type := 0, pos := "top01.go:134", after := #[{ on := 15, ground := Ground.data }, { on := 14, ground := Ground.data }, { on := 14, ground := Ground.chain }, { on := 0, ground := Ground.phase }, { on := 1, ground := Ground.phase }, { on := 2, ground := Ground.phase }, { on := 3, ground := Ground.phase }, { on := 4, ground := Ground.phase }, { on := 5, ground := Ground.phase }, { on := 6, ground := Ground.phase }, { on := 7, ground := Ground.phase }, { on := 8, ground := Ground.phase }, { on := 9, ground := Ground.phase }, { on := 10, ground := Ground.phase }, { on := 11, ground := Ground.phase }, { on := 12, ground := Ground.phase }, { on := 13, ground := Ground.phase }, { on := 14, ground := Ground.phase }], guard := none }]
set_option maxRecDepth 100000 in
set_option maxHeartbeats 4000000 in
theorem regP14 (Q : Exit → Act → World → Prop) (Tb x gB nf cf i : Nat) (av : Option Addr) (nv cv n : Nat) (ab : Option Addr) (nb cb : Nat) (zs : List Int) (cur : Array Value) (xs : List Value) {t1 t2 t4 t5 t6 t7 t9 t10 t11 t12 t13 t14 t15 t16 t17 t18 t19 t20 t21 t22 t23 t24 t25 t26 t27 t28 t29 t30 t31 t32 t33 t34 t35 t36 t37 t38 t39 t40 t41 t42 t43 t44 t45 t46 t47 t48 t49 t50 t51 t52 t53 t54 t55 t56 t57 t58 t59 t60 t61 t62 t63 t64 t65 t66 t67 t68 t69 t70 t71 t72 t73 t74 t75 t76 t77 t78 t79 t80 t81 t82 t83 t84 t85 t86 t87 t88 t89 t90 t91 t92 t93 t94 t95 t96 t97 t98 t99 t100 t101 t102 t103 t104 t105 t106 t107 t108 t109 t110 t111 t112 t113 t114 t115 t116 t117 t118 t119 t120 t121 t122 t123 t124 t125 t126 t127 t128 t129 t130 t131 t132 t133 t134 t135 t136 t137 t138 t139 t140 t141 t142 t143 t144 t145 t146 t147 t148 t149 t150 t151 t152 t153 t154 t155 t156 t157 t158 t159 t160 t161 t162 t163 t164 t165 t166 t167 t168 t169 t170 t171 t172 t173 t174 t175 t176 t177 t178 t179 t180 t181 t182 t183 t184 t185 t186 t187 t188 : Value} (W : World)
    (hown : W.ownsRow 0 5 1 (.slice av nv cv) n xs) (hin : (i : Int) < (nf : Int)) (hl : zs.length = nb) (hz : Lies .u8 W.drew ab zs) (hnn : ab = none → nb = 0 ∧ cb = 0) (hb : n + nb ≤ 140737488355328) (hB : W.heap[gB]? = some (.cells cur 36 (0, 0))) (hb0' : cur[i]? = some (.slice av nv cv)) (hne : (Value.slice av nv cv).ownBlock ≠ some gB)
    (hcv : ∀ V, W.drew.grownBy V (Value.slice av nv cv).ownBlock → V.cell? ⟨x, 1, none⟩ = some (.slice (some ⟨gB, 0, none⟩) nf cf) ∧ V.cell? ⟨Tb, 5, none⟩ = some (.slice ab nb cb)) (hcw : ∀ V, W.drew.grownBy V (Value.slice av nv cv).ownBlock → ∀ y, (V.setCell ⟨gB, i, none⟩ y).cell? ⟨x, 1, none⟩ = some (.slice (some ⟨gB, 0, none⟩) nf cf) ∧ (V.setCell ⟨gB, i, none⟩ y).cell? ⟨Tb, 5, none⟩ = some (.slice ab nb cb))
    (h : ∀ v' w', w'.ownsRow 0 5 1 v' (n + nb) (xs ++ zs.map (Value.int .u8)) → W.drew.grownBy w' (Value.slice av nv cv).ownBlock → (v'.ownBlock = (Value.slice av nv cv).ownBlock ∨ ∃ g, v'.ownBlock = some g ∧ W.heap.size ≤ g) → Q .normal { tmps := (.pointer (some ⟨x, 0, none⟩) :: t1 :: t2 :: .pointer (some ⟨Tb, 0, none⟩) :: t4 :: t5 :: t6 :: t7 :: .int .i64 (i : Int) :: t9 :: t10 :: t11 :: t12 :: t13 :: t14 :: t15 :: t16 :: t17 :: t18 :: t19 :: t20 :: t21 :: t22 :: t23 :: t24 :: t25 :: t26 :: t27 :: t28 :: t29 :: t30 :: t31 :: t32 :: t33 :: t34 :: t35 :: t36 :: t37 :: t38 :: t39 :: t40 :: t41 :: t42 :: t43 :: t44 :: t45 :: t46 :: t47 :: t48 :: t49 :: t50 :: t51 :: t52 :: t53 :: t54 :: t55 :: t56 :: t57 :: t58 :: t59 :: t60 :: t61 :: t62 :: t63 :: t64 :: t65 :: t66 :: t67 :: t68 :: t69 :: t70 :: t71 :: t72 :: t73 :: t74 :: .pointer (some ⟨x, 0, none⟩) :: .pointer (some ⟨x, 0, none⟩) :: .pointer (some ⟨x, 1, none⟩) :: .slice (some ⟨gB, 0, none⟩) nf cf :: .int .i64 (i : Int) :: .pointer (some ⟨x, 0, none⟩) :: .pointer (some ⟨x, 0, none⟩) :: .pointer (some ⟨x, 1, none⟩) :: .slice (some ⟨gB, 0, none⟩) nf cf :: .int .i64 (i : Int) :: .pointer (some ⟨gB, i, none⟩) :: .slice av nv cv :: .pointer (some ⟨Tb, 5, none⟩) :: .slice ab nb cb :: v' :: .pointer (some ⟨gB, i, none⟩) :: t91 :: t92 :: t93 :: t94 :: t95 :: t96 :: t97 :: t98 :: t99 :: t100 :: t101 :: t102 :: t103 :: t104 :: t105 :: t106 :: t107 :: t108 :: t109 :: t110 :: t111 :: t112 :: t113 :: t114 :: t115 :: t116 :: t117 :: t118 :: t119 :: t120 :: t121 :: t122 :: t123 :: t124 :: t125 :: t126 :: t127 :: t128 :: t129 :: t130 :: t131 :: t132 :: t133 :: t134 :: t135 :: t136 :: t137 :: t138 :: t139 :: t140 :: t141 :: t142 :: t143 :: t144 :: t145 :: t146 :: t147 :: t148 :: t149 :: t150 :: t151 :: t152 :: t153 :: t154 :: t155 :: t156 :: t157 :: t158 :: t159 :: t160 :: t161 :: t162 :: t163 :: t164 :: t165 :: t166 :: t167 :: t168 :: t169 :: t170 :: t171 :: t172 :: t173 :: t174 :: t175 :: t176 :: t177 :: t178 :: t179 :: t180 :: t181 :: t182 :: t183 :: t184 :: t185 :: t186 :: t187 :: t188 :: []).toArray, defers := [] } (w'.setCell ⟨gB, i, none⟩ v')) :
    (Code.region 14 regP14Ops true).wp Tryd.prog Q { tmps := (.pointer (some ⟨x, 0, none⟩) :: t1 :: t2 :: .pointer (some ⟨Tb, 0, none⟩) :: t4 :: t5 :: t6 :: t7 :: .int .i64 (i : Int) :: t9 :: t10 :: t11 :: t12 :: t13 :: t14 :: t15 :: t16 :: t17 :: t18 :: t19 :: t20 :: t21 :: t22 :: t23 :: t24 :: t25 :: t26 :: t27 :: t28 :: t29 :: t30 :: t31 :: t32 :: t33 :: t34 :: t35 :: t36 :: t37 :: t38 :: t39 :: t40 :: t41 :: t42 :: t43 :: t44 :: t45 :: t46 :: t47 :: t48 :: t49 :: t50 :: t51 :: t52 :: t53 :: t54 :: t55 :: t56 :: t57 :: t58 :: t59 :: t60 :: t61 :: t62 :: t63 :: t64 :: t65 :: t66 :: t67 :: t68 :: t69 :: t70 :: t71 :: t72 :: t73 :: t74 :: t75 :: t76 :: t77 :: t78 :: t79 :: t80 :: t81 :: t82 :: t83 :: t84 :: t85 :: t86 :: t87 :: t88 :: t89 :: t90 :: t91 :: t92 :: t93 :: t94 :: t95 :: t96 :: t97 :: t98 :: t99 :: t100 :: t101 :: t102 :: t103 :: t104 :: t105 :: t106 :: t107 :: t108 :: t109 :: t110 :: t111 :: t112 :: t113 :: t114 :: t115 :: t116 :: t117 :: t118 :: t119 :: t120 :: t121 :: t122 :: t123 :: t124 :: t125 :: t126 :: t127 :: t128 :: t129 :: t130 :: t131 :: t132 :: t133 :: t134 :: t135 :: t136 :: t137 :: t138 :: t139 :: t140 :: t141 :: t142 :: t143 :: t144 :: t145 :: t146 :: t147 :: t148 :: t149 :: t150 :: t151 :: t152 :: t153 :: t154 :: t155 :: t156 :: t157 :: t158 :: t159 :: t160 :: t161 :: t162 :: t163 :: t164 :: t165 :: t166 :: t167 :: t168 :: t169 :: t170 :: t171 :: t172 :: t173 :: t174 :: t175 :: t176 :: t177 :: t178 :: t179 :: t180 :: t181 :: t182 :: t183 :: t184 :: t185 :: t186 :: t187 :: t188 :: []).toArray, defers := [] } W := by
  refine Code.wp_mono (fun _ _ _ h => calmD_le h) ?_
  have hp : ∀ c a a' w, calmD Q (.panic c) a w → calmD Q (.panic c) a' w := fun _ _ _ _ h => h
  refine wp_region_held (S := fun V => V.cell? ⟨x, 1, none⟩ = some (.slice (some ⟨gB, 0, none⟩) nf cf) ∧ V.cell? ⟨Tb, 5, none⟩ = some (.slice ab nb cb)) (by kernel_rfl) ?_
  change wpAnyH _ _ _ _ _ _ _ _ W.drew
  have hS := hcv W.drew ⟨rfl, rfl, rfl, Nat.le_refl _, fun _ _ _ => rfl⟩
  have hi0 : (0 : Int) ≤ (i : Int) := by omega
  have hb0 : W.drew.cell? ⟨gB, i, none⟩ = some (.slice av nv cv) := (cell_of_row _ _ i _ _ _ (show W.drew.heap[gB]? = _ from hB)).trans hb0'
  refine wpAnyH_take (i := 0) (oi := { dst := some 75, op := Op.move (Operand.tmp 0), type := 30, pos := "top01.go:134", after := #[], guard := none }) (v := .pointer (some ⟨x, 0, none⟩)) rfl (by kernel_rfl) (by kernel_rfl) (by kernel_rfl) (fun _ _ _ h => hp _ _ _ _ h) (.inl ⟨by kernel_rfl, fun V hV => ?_⟩) hS ?_
  · have s0 := hV
    try obtain ⟨s1, s2⟩ := s0
    go_split_ands
    go_simp
    all_goals (first | assumption | skip)
  simp only [Act.put, List.setIfInBounds_toArray, List.set_cons_zero, List.set_cons_succ]
  refine wpAnyH_take (i := 1) (oi := { dst := some 76, op := Op.nilCheck (Operand.tmp 75), type := 0, pos := "top01.go:134", after := #[{ on := 0, ground := Ground.data }], guard := none }) (v := .pointer (some ⟨x, 0, none⟩)) rfl (by kernel_rfl) (by kernel_rfl) (by kernel_rfl) (fun _ _ _ h => hp _ _ _ _ h) (.inl ⟨by kernel_rfl, fun V hV => ?_⟩) hS ?_
  · have s0 := hV
    try obtain ⟨s1, s2⟩ := s0
    go_split_ands
    go_simp
    all_goals (first | assumption | skip)
  simp only [Act.put, List.setIfInBounds_toArray, List.set_cons_zero, List.set_cons_succ]
  refine wpAnyH_take (i := 2) (oi := { dst := some 77, op := Op.fieldAddr 35 (Operand.tmp 76) 1, type := 0, pos := "top01.go:134", after := #[{ on := 1, ground := Ground.data }], guard := none }) (v := .pointer (some ⟨x, 1, none⟩)) rfl (by kernel_rfl) (by kernel_rfl) (by kernel_rfl) (fun _ _ _ h => hp _ _ _ _ h) (.inl ⟨by kernel_rfl, fun V hV => ?_⟩) hS ?_
  · have s0 := hV
    try obtain ⟨s1, s2⟩ := s0
    go_split_ands
    go_simp
    all_goals (first | assumption | skip)
  simp only [Act.put, List.setIfInBounds_toArray, List.set_cons_zero, List.set_cons_succ]
  refine wpAnyH_take (i := 3) (oi := { dst := some 78, op := Op.load 32 (Operand.tmp 77), type := 32, pos := "top01.go:134", after := #[{ on := 2, ground := Ground.data }], guard := none }) (v := .slice (some ⟨gB, 0, none⟩) nf cf) rfl (by kernel_rfl) (by kernel_rfl) (by kernel_rfl) (fun _ _ _ h => hp _ _ _ _ h) (.inl ⟨by kernel_rfl, fun V hV => ?_⟩) hS ?_
  · have s0 := hV
    try obtain ⟨s1, s2⟩ := s0
    go_split_ands
    go_simp
    all_goals (first | assumption | skip)
  simp only [Act.put, List.setIfInBounds_toArray, List.set_cons_zero, List.set_cons_succ]
  refine wpAnyH_take (i := 4) (oi := { dst := some 79, op := Op.move (Operand.tmp 8), type := 3, pos := "top01.go:134", after := #[], guard := none }) (v := .int .i64 (i : Int)) rfl (by kernel_rfl) (by kernel_rfl) (by kernel_rfl) (fun _ _ _ h => hp _ _ _ _ h) (.inl ⟨by kernel_rfl, fun V hV => ?_⟩) hS ?_
  · have s0 := hV
    try obtain ⟨s1, s2⟩ := s0
    go_split_ands
    go_simp
    all_goals (first | assumption | skip)
  simp only [Act.put, List.setIfInBounds_toArray, List.set_cons_zero, List.set_cons_succ]
  refine wpAnyH_take (i := 5) (oi := { dst := some 80, op := Op.move (Operand.tmp 0), type := 30, pos := "top01.go:134", after := #[], guard := none }) (v := .pointer (some ⟨x, 0, none⟩)) rfl (by kernel_rfl) (by kernel_rfl) (by kernel_rfl) (fun _ _ _ h => hp _ _ _ _ h) (.inl ⟨by kernel_rfl, fun V hV => ?_⟩) hS ?_
  · have s0 := hV
    try obtain ⟨s1, s2⟩ := s0
    go_split_ands
    go_simp
    all_goals (first | assumption | skip)
  simp only [Act.put, List.setIfInBounds_toArray, List.set_cons_zero, List.set_cons_succ]
  refine wpAnyH_take (i := 6) (oi := { dst := some 81, op := Op.nilCheck (Operand.tmp 80), type := 0, pos := "top01.go:134", after := #[{ on := 5, ground := Ground.data }], guard := none }) (v := .pointer (some ⟨x, 0, none⟩)) rfl (by kernel_rfl) (by kernel_rfl) (by kernel_rfl) (fun _ _ _ h => hp _ _ _ _ h) (.inl ⟨by kernel_rfl, fun V hV => ?_⟩) hS ?_
  · have s0 := hV
    try obtain ⟨s1, s2⟩ := s0
    go_split_ands
    go_simp
    all_goals (first | assumption | skip)
  simp only [Act.put, List.setIfInBounds_toArray, List.set_cons_zero, List.set_cons_succ]
  refine wpAnyH_take (i := 7) (oi := { dst := some 82, op := Op.fieldAddr 35 (Operand.tmp 81) 1, type := 0, pos := "top01.go:134", after := #[{ on := 6, ground := Ground.data }], guard := none }) (v := .pointer (some ⟨x, 1, none⟩)) rfl (by kernel_rfl) (by kernel_rfl) (by kernel_rfl) (fun _ _ _ h => hp _ _ _ _ h) (.inl ⟨by kernel_rfl, fun V hV => ?_⟩) hS ?_
  · have s0 := hV
    try obtain ⟨s1, s2⟩ := s0
    go_split_ands
    go_simp
    all_goals (first | assumption | skip)
  simp only [Act.put, List.setIfInBounds_toArray, List.set_cons_zero, List.set_cons_succ]
  refine wpAnyH_take (i := 8) (oi := { dst := some 83, op := Op.load 32 (Operand.tmp 82), type := 32, pos := "top01.go:134", after := #[{ on := 7, ground := Ground.data }], guard := none }) (v := .slice (some ⟨gB, 0, none⟩) nf cf) rfl (by kernel_rfl) (by kernel_rfl) (by kernel_rfl) (fun _ _ _ h => hp _ _ _ _ h) (.inl ⟨by kernel_rfl, fun V hV => ?_⟩) hS ?_
  · have s0 := hV
    try obtain ⟨s1, s2⟩ := s0
    go_split_ands
    go_simp
    all_goals (first | assumption | skip)
  simp only [Act.put, List.setIfInBounds_toArray, List.set_cons_zero, List.set_cons_succ]
  refine wpAnyH_take (i := 9) (oi := { dst := some 84, op := Op.move (Operand.tmp 8), type := 3, pos := "top01.go:134", after := #[], guard := none }) (v := .int .i64 (i : Int)) rfl (by kernel_rfl) (by kernel_rfl) (by kernel_rfl) (fun _ _ _ h => hp _ _ _ _ h) (.inl ⟨by kernel_rfl, fun V hV => ?_⟩) hS ?_
  · have s0 := hV
    try obtain ⟨s1, s2⟩ := s0
    go_split_ands
    go_simp
    all_goals (first | assumption | skip)
  simp only [Act.put, List.setIfInBounds_toArray, List.set_cons_zero, List.set_cons_succ]
  refine wpAnyH_take (i := 10) (oi := { dst := some 85, op := Op.indexAddr 32 (Operand.tmp 83) (Operand.tmp 84), type := 0, pos := "top01.go:134", after := #[{ on := 8, ground := Ground.data }, { on := 9, ground := Ground.data }], guard := none }) (v := .pointer (some ⟨gB, i, none⟩)) rfl (by kernel_rfl) (by kernel_rfl) (by kernel_rfl) (fun _ _ _ h => hp _ _ _ _ h) (.inl ⟨by kernel_rfl, fun V hV => ?_⟩) hS ?_
  · have s0 := hV
    try obtain ⟨s1, s2⟩ := s0
    go_split_ands
    go_simp
    all_goals (first | assumption | skip)
  simp only [Act.put, List.setIfInBounds_toArray, List.set_cons_zero, List.set_cons_succ]
  refine wpAnyH_take (i := 12) (oi := { dst := some 87, op := Op.fieldAddr 38 (Operand.tmp 3) 5, type := 0, pos := "top01.go:134", after := #[], guard := none }) (v := .pointer (some ⟨Tb, 5, none⟩)) rfl (by kernel_rfl) (by kernel_rfl) (by kernel_rfl) (fun _ _ _ h => hp _ _ _ _ h) (.inl ⟨by kernel_rfl, fun V hV => ?_⟩) hS ?_
  · have s0 := hV
    try obtain ⟨s1, s2⟩ := s0
    go_split_ands
    go_simp
    all_goals (first | assumption | skip)
  simp only [Act.put, List.setIfInBounds_toArray, List.set_cons_zero, List.set_cons_succ]
  refine wpAnyH_take (i := 13) (oi := { dst := some 88, op := Op.load 36 (Operand.tmp 87), type := 36, pos := "top01.go:134", after := #[{ on := 12, ground := Ground.data }], guard := none }) (v := .slice ab nb cb) rfl (by kernel_rfl) (by kernel_rfl) (by kernel_rfl) (fun _ _ _ h => hp _ _ _ _ h) (.inl ⟨by kernel_rfl, fun V hV => ?_⟩) hS ?_
  · have s0 := hV
    try obtain ⟨s1, s2⟩ := s0
    go_split_ands
    go_simp
    all_goals (first | assumption | skip)
  simp only [Act.put, List.setIfInBounds_toArray, List.set_cons_zero, List.set_cons_succ]
  refine wpAnyH_ready (rs := [11]) (by kernel_rfl) (by simp) ?_
  refine (AllReadyH.cons (o := { dst := some 86, op := Op.load 36 (Operand.tmp 85), type := 36, pos := "top01.go:134", after := #[{ on := 10, ground := Ground.data }], guard := none }) rfl (fun K hK => ?_) AllReadyH.nil)
  go_simp
  refine hK.out _ _ hS (fun _ => ?_)
  clear hK K
  try simp only [Act.put, List.setIfInBounds_toArray, List.set_cons_zero, List.set_cons_succ]
  refine wpAnyH_all (rs := [14]) (by kernel_rfl) (by simp) ?_
  intro i hiX
  obtain rfl : i = 14 := by simpa using hiX
  refine appB_opD (j := 14) (o := { dst := some 89, op := Op.call { callee := Callee.builtin Builtin.append, args := #[Operand.tmp 86, Operand.tmp 88], argTypes := #[36, 36] }, type := 36, pos := "top01.go:134", after := #[{ on := 11, ground := Ground.data }, { on := 13, ground := Ground.data }], guard := none }) rfl rfl (.tmp 86) (.tmp 88) rfl (.slice av nv cv) n xs (by simp [Act.eval]) (w := W.drew) hown ab nb cb zs (by simp [Act.eval]) hl hz hnn (by omega) ?_
  intro v' w' r1 r2 r3
  have hS2 := hcv w' r2
  refine ⟨hS2, ?_⟩
  have hQ' : w'.heap[gB]? = some (.cells cur 36 (0, 0)) := (r2.block gB (Array.getElem?_eq_some_iff.1 hB).1 (fun e => hne e.symm)).trans hB
  have hfz : w'.frozen? ⟨gB, i, none⟩ = false := frozen_of_row _ _ i _ _ hQ'
  have hbv : w'.cell? ⟨gB, i, none⟩ = some (.slice av nv cv) := (cell_of_row _ _ i _ _ _ hQ').trans hb0'
  have hfin := h v' w' r1 r2 (r3.imp id (fun e => ⟨_, e, by simp⟩))
  obtain ⟨a1, n1, rfl⟩ := d_shape r1
  try simp only [Act.put, List.setIfInBounds_toArray, List.set_cons_zero, List.set_cons_succ]
  refine wpAnyH_take (i := 15) (oi := { dst := some 90, op := Op.indexAddr 32 (Operand.tmp 78) (Operand.tmp 79), type := 0, pos := "top01.go:134", after := #[{ on := 3, ground := Ground.data }, { on := 4, ground := Ground.data }, { on := 0, ground := Ground.phase }, { on := 1, ground := Ground.phase }, { on := 2, ground := Ground.phase }, { on := 3, ground := Ground.phase }, { on := 4, ground := Ground.phase }, { on := 5, ground := Ground.phase }, { on := 6, ground := Ground.phase }, { on := 7, ground := Ground.phase }, { on := 8, ground := Ground.phase }, { on := 9, ground := Ground.phase }, { on := 10, ground := Ground.phase }, { on := 11, ground := Ground.phase }, { on := 12, ground := Ground.phase }, { on := 13, ground := Ground.phase }, { on := 14, ground := Ground.phase }], guard := none }) (v := .pointer (some ⟨gB, i, none⟩)) rfl (by kernel_rfl) (by kernel_rfl) (by kernel_rfl) (fun _ _ _ h => hp _ _ _ _ h) (.inl ⟨by kernel_rfl, fun V hV => ?_⟩) hS2 ?_
  · have s0 := hV
    try obtain ⟨s1, s2⟩ := s0
    go_split_ands
    go_simp
    all_goals (first | assumption | skip)
  simp only [Act.put, List.setIfInBounds_toArray, List.set_cons_zero, List.set_cons_succ]
  refine wpAnyH_ready (rs := [16]) (by kernel_rfl) (by simp) ?_
  refine (AllReadyH.cons (o := { dst := none, op := Op.store 36 (Operand.tmp 90) (Operand.tmp 89), type := 0, pos := "top01.go:134", after := #[{ on := 15, ground := Ground.data }, { on := 14, ground := Ground.data }, { on := 14, ground := Ground.chain }, { on := 0, ground := Ground.phase }, { on := 1, ground := Ground.phase }, { on := 2, ground := Ground.phase }, { on := 3, ground := Ground.phase }, { on := 4, ground := Ground.phase }, { on := 5, ground := Ground.phase }, { on := 6, ground := Ground.phase }, { on := 7, ground := Ground.phase }, { on := 8, ground := Ground.phase }, { on := 9, ground := Ground.phase }, { on := 10, ground := Ground.phase }, { on := 11, ground := Ground.phase }, { on := 12, ground := Ground.phase }, { on := 13, ground := Ground.phase }, { on := 14, ground := Ground.phase }], guard := none }) rfl (fun K hK => ?_) AllReadyH.nil)
  go_simp
  refine hK.out _ _ (hcw w' r2 _) (fun _ => ?_)
  clear hK K
  try simp only [Act.put, List.setIfInBounds_toArray, List.set_cons_zero, List.set_cons_succ]
  exact wpAnyH_done (Q := calmD Q) (by kernel_rfl) hfin _

theorem infoStr : (Tryd.prog.info? 9).map (fun i => (i.zero, i.size, i.bytes)) = some (some (.string ByteArray.empty), 1, 16) := by kernel_rfl
theorem one_newD (w : World) (a : Value) (t : TypeId) : ∀ j u, [a][j]? = some u → (w.alloc (.cells #[a] t)).cell? ((⟨w.heap.size, 0, none⟩ : Addr).add j) = some u := by
  intro j u hj
  match j, hj with
  | 0, hj => simp at hj; subst hj; simp [Addr.add]
def regP8Ops : Array Oper := #[{ dst := some 37, op := Op.move (Operand.tmp 0), type := 30, pos := "top01.go:128", after := #[], guard := none },
  { dst := some 38, op := Op.move (Operand.tmp 0), type := 30, pos := "top01.go:128", after := #[], guard := none },
  { dst := some 39, op := Op.nilCheck (Operand.tmp 38), type := 0, pos := "top01.go:128", after := #[{ on := 1, ground := Ground.data }], guard := none },
  { dst := some 40, op := Op.fieldAddr 35 (Operand.tmp 39) 0, type := 0, pos := "top01.go:128", after := #[{ on := 2, ground := Ground.data }], guard := none },
  { dst := some 41, op := Op.load 31 (Operand.tmp 40), type := 31, pos := "top01.go:128", after := #[{ on := 3, ground := Ground.data }], guard := none },
  { dst := some 42, op := Op.fieldAddr 38 (Operand.tmp 3) 3, type := 0, pos := "top01.go:128", after := #[], guard := none },
  { dst := some 43, op := Op.load 9 (Operand.tmp 42), type := 9, pos := "top01.go:128", after := #[{ on := 5, ground := Ground.data }], guard := none },
  { dst := some 44, op := Op.buildSlice 31 1 #[(0, Operand.tmp 43)], type := 31, pos := "top01.go:128", after := #[{ on := 6, ground := Ground.data }], guard := none },
  { dst := some 45, op := Op.call { callee := Callee.builtin Builtin.append, args := #[Operand.tmp 41, Operand.tmp 44], argTypes := #[31, 31] }, type := 31, pos := "top01.go:128", after := #[{ on := 4, ground := Ground.data }, { on := 7, ground := Ground.data }], guard := none },
  { dst := some 46, op := Op.nilCheck (Operand.tmp 37), type := 0, pos := "top01.go:128", after := #[{ on := 0, ground := Ground.data }, { on := 0, ground := Ground.phase }, { on := 1, ground := Ground.phase }, { on := 2, ground := Ground.phase }, { on := 3, ground := Ground.phase }, { on := 4, ground := Ground.phase }, { on := 5, ground := Ground.phase }, { on := 6, ground := Ground.phase }, { on := 7, ground := Ground.phase }, { on := 8, ground := Ground.phase }], guard := none },
  { dst := some 47, op := Op.fieldAddr 35 (Operand.tmp 46) 0, type := 0, pos := "top01.go:128", after := #[{ on := 9, ground := Ground.data }, { on := 0, ground := Ground.phase }, { on := 1, ground := Ground.phase }, { on := 2, ground := Ground.phase }, { on := 3, ground := Ground.phase }, { on := 4, ground := Ground.phase }, { on := 5, ground := Ground.phase }, { on := 6, ground := Ground.phase }, { on := 7, ground := Ground.phase }, { on := 8, ground := Ground.phase }], guard := none },
  { dst := none, op := Op.store 31 (Operand.tmp 47) (Operand.tmp 45), type := 0, pos := "top01.go:128", after := #[{ on := 10, ground := Ground.data }, { on := 8, ground := Ground.data }, { on := 8, ground := Ground.chain }, { on := 0, ground := Ground.phase }, { on := 1, ground := Ground.phase }, { on := 2, ground := Ground.phase }, { on := 3, ground := Ground.phase }, { on := 4, ground := Ground.phase }, { on := 5, ground := Ground.phase }, { on := 6, ground := Ground.phase }, { on := 7, ground := Ground.phase }, { on := 8, ground := Ground.phase }], guard := none }]
set_option maxRecDepth 100000 in
set_option maxHeartbeats 4000000 in
theorem regP8 (Q : Exit → Act → World → Prop) (Tb x : Nat) (s : ByteArray) (af : Option Addr) (nf cf n : Nat) (bx : Array Value) (xs : List Value) {t1 t2 t4 t5 t6 t7 t8 t9 t10 t11 t12 t13 t14 t15 t16 t17 t18 t19 t20 t21 t22 t23 t24 t25 t26 t27 t28 t29 t30 t31 t32 t33 t34 t35 t36 t37 t38 t39 t40 t41 t42 t43 t44 t45 t46 t47 t48 t49 t50 t51 t52 t53 t54 t55 t56 t57 t58 t59 t60 t61 t62 t63 t64 t65 t66 t67 t68 t69 t70 t71 t72 t73 t74 t75 t76 t77 t78 t79 t80 t81 t82 t83 t84 t85 t86 t87 t88 t89 t90 t91 t92 t93 t94 t95 t96 t97 t98 t99 t100 t101 t102 t103 t104 t105 t106 t107 t108 t109 t110 t111 t112 t113 t114 t115 t116 t117 t118 t119 t120 t121 t122 t123 t124 t125 t126 t127 t128 t129 t130 t131 t132 t133 t134 t135 t136 t137 t138 t139 t140 t141 t142 t143 t144 t145 t146 t147 t148 t149 t150 t151 t152 t153 t154 t155 t156 t157 t158 t159 t160 t161 t162 t163 t164 t165 t166 t167 t168 t169 t170 t171 t172 t173 t174 t175 t176 t177 t178 t179 t180 t181 t182 t183 t184 t185 t186 t187 t188 : Value} (W : World)
    (hown : W.ownsRow 0 9 1 (.slice af nf cf) n xs) (hn : n ≤ 1099511627777) (hB : W.heap[x]? = some (.cells bx 35 (0, 0))) (hb0' : bx[0]? = some (.slice af nf cf)) (hne : (Value.slice af nf cf).ownBlock ≠ some x)
    (hcv : ∀ V, W.drew.grownBy V (Value.slice af nf cf).ownBlock → V.cell? ⟨Tb, 3, none⟩ = some (.string s)) (hcw : ∀ V, W.drew.grownBy V (Value.slice af nf cf).ownBlock → ∀ y, (V.setCell ⟨x, 0, none⟩ y).cell? ⟨Tb, 3, none⟩ = some (.string s))
    (h : ∀ v' w', w'.ownsRow 0 9 1 v' (n + 1) (xs ++ [.string s]) → W.drew.grownBy w' (Value.slice af nf cf).ownBlock → (v'.ownBlock = (Value.slice af nf cf).ownBlock ∨ ∃ g, v'.ownBlock = some g ∧ W.heap.size ≤ g) → w'.heap[x]? = some (.cells bx 35 (0, 0)) → Q .normal { tmps := (.pointer (some ⟨x, 0, none⟩) :: t1 :: t2 :: .pointer (some ⟨Tb, 0, none⟩) :: t4 :: t5 :: t6 :: t7 :: t8 :: t9 :: t10 :: t11 :: t12 :: t13 :: t14 :: t15 :: t16 :: t17 :: t18 :: t19 :: t20 :: t21 :: t22 :: t23 :: t24 :: t25 :: t26 :: t27 :: t28 :: t29 :: t30 :: t31 :: t32 :: t33 :: t34 :: t35 :: t36 :: .pointer (some ⟨x, 0, none⟩) :: .pointer (some ⟨x, 0, none⟩) :: .pointer (some ⟨x, 0, none⟩) :: .pointer (some ⟨x, 0, none⟩) :: .slice af nf cf :: .pointer (some ⟨Tb, 3, none⟩) :: .string s :: .slice (some ⟨W.heap.size, 0, none⟩) 1 1 :: v' :: .pointer (some ⟨x, 0, none⟩) :: .pointer (some ⟨x, 0, none⟩) :: t48 :: t49 :: t50 :: t51 :: t52 :: t53 :: t54 :: t55 :: t56 :: t57 :: t58 :: t59 :: t60 :: t61 :: t62 :: t63 :: t64 :: t65 :: t66 :: t67 :: t68 :: t69 :: t70 :: t71 :: t72 :: t73 :: t74 :: t75 :: t76 :: t77 :: t78 :: t79 :: t80 :: t81 :: t82 :: t83 :: t84 :: t85 :: t86 :: t87 :: t88 :: t89 :: t90 :: t91 :: t92 :: t93 :: t94 :: t95 :: t96 :: t97 :: t98 :: t99 :: t100 :: t101 :: t102 :: t103 :: t104 :: t105 :: t106 :: t107 :: t108 :: t109 :: t110 :: t111 :: t112 :: t113 :: t114 :: t115 :: t116 :: t117 :: t118 :: t119 :: t120 :: t121 :: t122 :: t123 :: t124 :: t125 :: t126 :: t127 :: t128 :: t129 :: t130 :: t131 :: t132 :: t133 :: t134 :: t135 :: t136 :: t137 :: t138 :: t139 :: t140 :: t141 :: t142 :: t143 :: t144 :: t145 :: t146 :: t147 :: t148 :: t149 :: t150 :: t151 :: t152 :: t153 :: t154 :: t155 :: t156 :: t157 :: t158 :: t159 :: t160 :: t161 :: t162 :: t163 :: t164 :: t165 :: t166 :: t167 :: t168 :: t169 :: t170 :: t171 :: t172 :: t173 :: t174 :: t175 :: t176 :: t177 :: t178 :: t179 :: t180 :: t181 :: t182 :: t183 :: t184 :: t185 :: t186 :: t187 :: t188 :: []).toArray, defers := [] } (w'.setCell ⟨x, 0, none⟩ v')) :
    (Code.region 8 regP8Ops true).wp Tryd.prog Q { tmps := (.pointer (some ⟨x, 0, none⟩) :: t1 :: t2 :: .pointer (some ⟨Tb, 0, none⟩) :: t4 :: t5 :: t6 :: t7 :: t8 :: t9 :: t10 :: t11 :: t12 :: t13 :: t14 :: t15 :: t16 :: t17 :: t18 :: t19 :: t20 :: t21 :: t22 :: t23 :: t24 :: t25 :: t26 :: t27 :: t28 :: t29 :: t30 :: t31 :: t32 :: t33 :: t34 :: t35 :: t36 :: t37 :: t38 :: t39 :: t40 :: t41 :: t42 :: t43 :: t44 :: t45 :: t46 :: t47 :: t48 :: t49 :: t50 :: t51 :: t52 :: t53 :: t54 :: t55 :: t56 :: t57 :: t58 :: t59 :: t60 :: t61 :: t62 :: t63 :: t64 :: t65 :: t66 :: t67 :: t68 :: t69 :: t70 :: t71 :: t72 :: t73 :: t74 :: t75 :: t76 :: t77 :: t78 :: t79 :: t80 :: t81 :: t82 :: t83 :: t84 :: t85 :: t86 :: t87 :: t88 :: t89 :: t90 :: t91 :: t92 :: t93 :: t94 :: t95 :: t96 :: t97 :: t98 :: t99 :: t100 :: t101 :: t102 :: t103 :: t104 :: t105 :: t106 :: t107 :: t108 :: t109 :: t110 :: t111 :: t112 :: t113 :: t114 :: t115 :: t116 :: t117 :: t118 :: t119 :: t120 :: t121 :: t122 :: t123 :: t124 :: t125 :: t126 :: t127 :: t128 :: t129 :: t130 :: t131 :: t132 :: t133 :: t134 :: t135 :: t136 :: t137 :: t138 :: t139 :: t140 :: t141 :: t142 :: t143 :: t144 :: t145 :: t146 :: t147 :: t148 :: t149 :: t150 :: t151 :: t152 :: t153 :: t154 :: t155 :: t156 :: t157 :: t158 :: t159 :: t160 :: t161 :: t162 :: t163 :: t164 :: t165 :: t166 :: t167 :: t168 :: t169 :: t170 :: t171 :: t172 :: t173 :: t174 :: t175 :: t176 :: t177 :: t178 :: t179 :: t180 :: t181 :: t182 :: t183 :: t184 :: t185 :: t186 :: t187 :: t188 :: []).toArray, defers := [] } W := by
  refine Code.wp_mono (fun _ _ _ h => calmD_le h) ?_
  have hp : ∀ c a a' w, calmD Q (.panic c) a w → calmD Q (.panic c) a' w := fun _ _ _ _ h => h
  refine wp_region_held (S := fun V => V.cell? ⟨Tb, 3, none⟩ = some (.string s)) (by kernel_rfl) ?_
  change wpAnyH _ _ _ _ _ _ _ _ W.drew
  have hS := hcv W.drew ⟨rfl, rfl, rfl, Nat.le_refl _, fun _ _ _ => rfl⟩
  have hb0 : W.drew.cell? ⟨x, 0, none⟩ = some (.slice af nf cf) := (cell_of_row _ _ 0 _ _ _ (show W.drew.heap[x]? = _ from hB)).trans hb0'
  obtain ⟨i0, hi, hz0, hz1, hz2⟩ := info_partsD infoStr
  refine wpAnyH_take (i := 0) (oi := { dst := some 37, op := Op.move (Operand.tmp 0), type := 30, pos := "top01.go:128", after := #[], guard := none }) (v := .pointer (some ⟨x, 0, none⟩)) rfl (by kernel_rfl) (by kernel_rfl) (by kernel_rfl) (fun _ _ _ h => hp _ _ _ _ h) (.inl ⟨by kernel_rfl, fun V hV => ?_⟩) hS ?_
  · have s0 := hV
    try obtain ⟨s1, s2⟩ := s0
    go_split_ands
    go_simp
    all_goals (first | assumption | skip)
  simp only [Act.put, List.setIfInBounds_toArray, List.set_cons_zero, List.set_cons_succ]
  refine wpAnyH_take (i := 1) (oi := { dst := some 38, op := Op.move (Operand.tmp 0), type := 30, pos := "top01.go:128", after := #[], guard := none }) (v := .pointer (some ⟨x, 0, none⟩)) rfl (by kernel_rfl) (by kernel_rfl) (by kernel_rfl) (fun _ _ _ h => hp _ _ _ _ h) (.inl ⟨by kernel_rfl, fun V hV => ?_⟩) hS ?_
  · have s0 := hV
    try obtain ⟨s1, s2⟩ := s0
    go_split_ands
    go_simp
    all_goals (first | assumption | skip)
  simp only [Act.put, List.setIfInBounds_toArray, List.set_cons_zero, List.set_cons_succ]
  refine wpAnyH_take (i := 2) (oi := { dst := some 39, op := Op.nilCheck (Operand.tmp 38), type := 0, pos := "top01.go:128", after := #[{ on := 1, ground := Ground.data }], guard := none }) (v := .pointer (some ⟨x, 0, none⟩)) rfl (by kernel_rfl) (by kernel_rfl) (by kernel_rfl) (fun _ _ _ h => hp _ _ _ _ h) (.inl ⟨by kernel_rfl, fun V hV => ?_⟩) hS ?_
  · have s0 := hV
    try obtain ⟨s1, s2⟩ := s0
    go_split_ands
    go_simp
    all_goals (first | assumption | skip)
  simp only [Act.put, List.setIfInBounds_toArray, List.set_cons_zero, List.set_cons_succ]
  refine wpAnyH_take (i := 3) (oi := { dst := some 40, op := Op.fieldAddr 35 (Operand.tmp 39) 0, type := 0, pos := "top01.go:128", after := #[{ on := 2, ground := Ground.data }], guard := none }) (v := .pointer (some ⟨x, 0, none⟩)) rfl (by kernel_rfl) (by kernel_rfl) (by kernel_rfl) (fun _ _ _ h => hp _ _ _ _ h) (.inl ⟨by kernel_rfl, fun V hV => ?_⟩) hS ?_
  · have s0 := hV
    try obtain ⟨s1, s2⟩ := s0
    go_split_ands
    go_simp
    all_goals (first | assumption | skip)
  simp only [Act.put, List.setIfInBounds_toArray, List.set_cons_zero, List.set_cons_succ]
  refine wpAnyH_take (i := 5) (oi := { dst := some 42, op := Op.fieldAddr 38 (Operand.tmp 3) 3, type := 0, pos := "top01.go:128", after := #[], guard := none }) (v := .pointer (some ⟨Tb, 3, none⟩)) rfl (by kernel_rfl) (by kernel_rfl) (by kernel_rfl) (fun _ _ _ h => hp _ _ _ _ h) (.inl ⟨by kernel_rfl, fun V hV => ?_⟩) hS ?_
  · have s0 := hV
    try obtain ⟨s1, s2⟩ := s0
    go_split_ands
    go_simp
    all_goals (first | assumption | skip)
  simp only [Act.put, List.setIfInBounds_toArray, List.set_cons_zero, List.set_cons_succ]
  refine wpAnyH_take (i := 6) (oi := { dst := some 43, op := Op.load 9 (Operand.tmp 42), type := 9, pos := "top01.go:128", after := #[{ on := 5, ground := Ground.data }], guard := none }) (v := .string s) rfl (by kernel_rfl) (by kernel_rfl) (by kernel_rfl) (fun _ _ _ h => hp _ _ _ _ h) (.inl ⟨by kernel_rfl, fun V hV => ?_⟩) hS ?_
  · have s0 := hV
    try obtain ⟨s1, s2⟩ := s0
    go_split_ands
    go_simp
    all_goals (first | assumption | skip)
  simp only [Act.put, List.setIfInBounds_toArray, List.set_cons_zero, List.set_cons_succ]
  refine wpAnyH_ready (rs := [4, 7]) (by kernel_rfl) (by simp) ?_
  refine (AllReadyH.cons (o := { dst := some 41, op := Op.load 31 (Operand.tmp 40), type := 31, pos := "top01.go:128", after := #[{ on := 3, ground := Ground.data }], guard := none }) rfl (fun K hK => ?_) (AllReadyH.cons (o := { dst := some 44, op := Op.buildSlice 31 1 #[(0, Operand.tmp 43)], type := 31, pos := "top01.go:128", after := #[{ on := 6, ground := Ground.data }], guard := none }) rfl (fun K hK => ?_) AllReadyH.nil))
  · go_simp
    refine hK.out _ _ hS (fun _ => ?_)
    clear hK K
    try simp only [Act.put, List.setIfInBounds_toArray, List.set_cons_zero, List.set_cons_succ]
    refine wpAnyH_ready (rs := [7]) (by kernel_rfl) (by simp) ?_
    refine (AllReadyH.cons (o := { dst := some 44, op := Op.buildSlice 31 1 #[(0, Operand.tmp 43)], type := 31, pos := "top01.go:128", after := #[{ on := 6, ground := Ground.data }], guard := none }) rfl (fun K hK => ?_) AllReadyH.nil)
    go_simp
    refine hK.out _ _ (hcv (W.drew.alloc (.cells #[.string s] 9)) (World.grownBy_alloc W.drew _ _)) (fun _ => ?_)
    clear hK K
    try simp only [Act.put, List.setIfInBounds_toArray, List.set_cons_zero, List.set_cons_succ]
    have hS1 := hcv (W.drew.alloc (.cells #[.string s] 9)) (World.grownBy_alloc W.drew _ _)
    have hb1 : (W.alloc (.cells #[.string s] 9)).cell? ⟨x, 0, none⟩ = some (.slice af nf cf) := (World.cell?_of_block (a := ⟨x, 0, none⟩) (Below.heap_alloc W _ x (Array.getElem?_eq_some_iff.1 hB).1)).trans hb0
    refine wpAnyH_all (rs := [8]) (by kernel_rfl) (by simp) ?_
    intro i hiX
    obtain rfl : i = 8 := by simpa using hiX
    refine app_opD (j := 8) (o := { dst := some 45, op := Op.call { callee := Callee.builtin Builtin.append, args := #[Operand.tmp 41, Operand.tmp 44], argTypes := #[31, 31] }, type := 31, pos := "top01.go:128", after := #[{ on := 4, ground := Ground.data }, { on := 7, ground := Ground.data }], guard := none }) rfl rfl (.tmp 41) (.tmp 44) 31 rfl 0 9 i0 (.string ByteArray.empty) 1 16 Tryd.underlying31 hi hz0 hz1 hz2 rfl (by decide) (.slice af nf cf) n xs (by simp [Act.eval]) (World.ownsRow.alloc (w := W.drew) hown _) ⟨W.heap.size, 0, none⟩ 1 1 [.string s] (by simp [Act.eval]) rfl (one_newD W.drew _ _) (by simp [Value.oneCell']) (by unfold maxLen; omega) (by omega) (Nat.zero_le _) ?_
    intro v' w' r1 r2 r3
    have hgr : W.drew.grownBy w' (Value.slice af nf cf).ownBlock := (World.grownBy_alloc W.drew _ _).trans r2
    have hS2 := hcv w' hgr
    refine ⟨hS2, ?_⟩
    have hQ' : w'.heap[x]? = some (.cells bx 35 (0, 0)) := (hgr.block x (Array.getElem?_eq_some_iff.1 hB).1 (fun e => hne e.symm)).trans hB
    have hfz : w'.frozen? ⟨x, 0, none⟩ = false := frozen_of_row _ _ 0 _ _ hQ'
    have hbv : w'.cell? ⟨x, 0, none⟩ = some (.slice af nf cf) := (cell_of_row _ _ 0 _ _ _ hQ').trans hb0'
    have hfin := h v' w' r1 hgr (r3.imp id (fun e => ⟨_, e, by simp⟩)) hQ'
    obtain ⟨a1, n1, rfl⟩ := d_shape r1
    try simp only [Act.put, List.setIfInBounds_toArray, List.set_cons_zero, List.set_cons_succ]
    refine wpAnyH_take (i := 9) (oi := { dst := some 46, op := Op.nilCheck (Operand.tmp 37), type := 0, pos := "top01.go:128", after := #[{ on := 0, ground := Ground.data }, { on := 0, ground := Ground.phase }, { on := 1, ground := Ground.phase }, { on := 2, ground := Ground.phase }, { on := 3, ground := Ground.phase }, { on := 4, ground := Ground.phase }, { on := 5, ground := Ground.phase }, { on := 6, ground := Ground.phase }, { on := 7, ground := Ground.phase }, { on := 8, ground := Ground.phase }], guard := none }) (v := .pointer (some ⟨x, 0, none⟩)) rfl (by kernel_rfl) (by kernel_rfl) (by kernel_rfl) (fun _ _ _ h => hp _ _ _ _ h) (.inl ⟨by kernel_rfl, fun V hV => ?_⟩) hS2 ?_
    · have s0 := hV
      try obtain ⟨s1, s2⟩ := s0
      go_split_ands
      go_simp
      all_goals (first | assumption | skip)
    simp only [Act.put, List.setIfInBounds_toArray, List.set_cons_zero, List.set_cons_succ]
    refine wpAnyH_take (i := 10) (oi := { dst := some 47, op := Op.fieldAddr 35 (Operand.tmp 46) 0, type := 0, pos := "top01.go:128", after := #[{ on := 9, ground := Ground.data }, { on := 0, ground := Ground.phase }, { on := 1, ground := Ground.phase }, { on := 2, ground := Ground.phase }, { on := 3, ground := Ground.phase }, { on := 4, ground := Ground.phase }, { on := 5, ground := Ground.phase }, { on := 6, ground := Ground.phase }, { on := 7, ground := Ground.phase }, { on := 8, ground := Ground.phase }], guard := none }) (v := .pointer (some ⟨x, 0, none⟩)) rfl (by kernel_rfl) (by kernel_rfl) (by kernel_rfl) (fun _ _ _ h => hp _ _ _ _ h) (.inl ⟨by kernel_rfl, fun V hV => ?_⟩) hS2 ?_
    · have s0 := hV
      try obtain ⟨s1, s2⟩ := s0
      go_split_ands
      go_simp
      all_goals (first | assumption | skip)
    simp only [Act.put, List.setIfInBounds_toArray, List.set_cons_zero, List.set_cons_succ]
    refine wpAnyH_ready (rs := [11]) (by kernel_rfl) (by simp) ?_
    refine (AllReadyH.cons (o := { dst := none, op := Op.store 31 (Operand.tmp 47) (Operand.tmp 45), type := 0, pos := "top01.go:128", after := #[{ on := 10, ground := Ground.data }, { on := 8, ground := Ground.data }, { on := 8, ground := Ground.chain }, { on := 0, ground := Ground.phase }, { on := 1, ground := Ground.phase }, { on := 2, ground := Ground.phase }, { on := 3, ground := Ground.phase }, { on := 4, ground := Ground.phase }, { on := 5, ground := Ground.phase }, { on := 6, ground := Ground.phase }, { on := 7, ground := Ground.phase }, { on := 8, ground := Ground.phase }], guard := none }) rfl (fun K hK => ?_) AllReadyH.nil)
    go_simp
    refine hK.out _ _ (hcw w' hgr _) (fun _ => ?_)
    clear hK K
    try simp only [Act.put, List.setIfInBounds_toArray, List.set_cons_zero, List.set_cons_succ]
    exact wpAnyH_done (Q := calmD Q) (by kernel_rfl) hfin _
  · go_simp
    refine hK.out _ _ (hcv (W.drew.alloc (.cells #[.string s] 9)) (World.grownBy_alloc W.drew _ _)) (fun _ => ?_)
    clear hK K
    try simp only [Act.put, List.setIfInBounds_toArray, List.set_cons_zero, List.set_cons_succ]
    have hS1 := hcv (W.drew.alloc (.cells #[.string s] 9)) (World.grownBy_alloc W.drew _ _)
    have hb1 : (W.alloc (.cells #[.string s] 9)).cell? ⟨x, 0, none⟩ = some (.slice af nf cf) := (World.cell?_of_block (a := ⟨x, 0, none⟩) (Below.heap_alloc W _ x (Array.getElem?_eq_some_iff.1 hB).1)).trans hb0
    refine wpAnyH_ready (rs := [4]) (by kernel_rfl) (by simp) ?_
    refine (AllReadyH.cons (o := { dst := some 41, op := Op.load 31 (Operand.tmp 40), type := 31, pos := "top01.go:128", after := #[{ on := 3, ground := Ground.data }], guard := none }) rfl (fun K hK => ?_) AllReadyH.nil)
    go_simp
    refine hK.out _ _ hS1 (fun _ => ?_)
    clear hK K
    try simp only [Act.put, List.setIfInBounds_toArray, List.set_cons_zero, List.set_cons_succ]
    refine wpAnyH_all (rs := [8]) (by kernel_rfl) (by simp) ?_
    intro i hiX
    obtain rfl : i = 8 := by simpa using hiX
    refine app_opD (j := 8) (o := { dst := some 45, op := Op.call { callee := Callee.builtin Builtin.append, args := #[Operand.tmp 41, Operand.tmp 44], argTypes := #[31, 31] }, type := 31, pos := "top01.go:128", after := #[{ on := 4, ground := Ground.data }, { on := 7, ground := Ground.data }], guard := none }) rfl rfl (.tmp 41) (.tmp 44) 31 rfl 0 9 i0 (.string ByteArray.empty) 1 16 Tryd.underlying31 hi hz0 hz1 hz2 rfl (by decide) (.slice af nf cf) n xs (by simp [Act.eval]) (World.ownsRow.alloc (w := W.drew) hown _) ⟨W.heap.size, 0, none⟩ 1 1 [.string s] (by simp [Act.eval]) rfl (one_newD W.drew _ _) (by simp [Value.oneCell']) (by unfold maxLen; omega) (by omega) (Nat.zero_le _) ?_
    intro v' w' r1 r2 r3
    have hgr : W.drew.grownBy w' (Value.slice af nf cf).ownBlock := (World.grownBy_alloc W.drew _ _).trans r2
    have hS2 := hcv w' hgr
    refine ⟨hS2, ?_⟩
    have hQ' : w'.heap[x]? = some (.cells bx 35 (0, 0)) := (hgr.block x (Array.getElem?_eq_some_iff.1 hB).1 (fun e => hne e.symm)).trans hB
    have hfz : w'.frozen? ⟨x, 0, none⟩ = false := frozen_of_row _ _ 0 _ _ hQ'
    have hbv : w'.cell? ⟨x, 0, none⟩ = some (.slice af nf cf) := (cell_of_row _ _ 0 _ _ _ hQ').trans hb0'
    have hfin := h v' w' r1 hgr (r3.imp id (fun e => ⟨_, e, by simp⟩)) hQ'
    obtain ⟨a1, n1, rfl⟩ := d_shape r1
    try simp only [Act.put, List.setIfInBounds_toArray, List.set_cons_zero, List.set_cons_succ]
    refine wpAnyH_take (i := 9) (oi := { dst := some 46, op := Op.nilCheck (Operand.tmp 37), type := 0, pos := "top01.go:128", after := #[{ on := 0, ground := Ground.data }, { on := 0, ground := Ground.phase }, { on := 1, ground := Ground.phase }, { on := 2, ground := Ground.phase }, { on := 3, ground := Ground.phase }, { on := 4, ground := Ground.phase }, { on := 5, ground := Ground.phase }, { on := 6, ground := Ground.phase }, { on := 7, ground := Ground.phase }, { on := 8, ground := Ground.phase }], guard := none }) (v := .pointer (some ⟨x, 0, none⟩)) rfl (by kernel_rfl) (by kernel_rfl) (by kernel_rfl) (fun _ _ _ h => hp _ _ _ _ h) (.inl ⟨by kernel_rfl, fun V hV => ?_⟩) hS2 ?_
    · have s0 := hV
      try obtain ⟨s1, s2⟩ := s0
      go_split_ands
      go_simp
      all_goals (first | assumption | skip)
    simp only [Act.put, List.setIfInBounds_toArray, List.set_cons_zero, List.set_cons_succ]
    refine wpAnyH_take (i := 10) (oi := { dst := some 47, op := Op.fieldAddr 35 (Operand.tmp 46) 0, type := 0, pos := "top01.go:128", after := #[{ on := 9, ground := Ground.data }, { on := 0, ground := Ground.phase }, { on := 1, ground := Ground.phase }, { on := 2, ground := Ground.phase }, { on := 3, ground := Ground.phase }, { on := 4, ground := Ground.phase }, { on := 5, ground := Ground.phase }, { on := 6, ground := Ground.phase }, { on := 7, ground := Ground.phase }, { on := 8, ground := Ground.phase }], guard := none }) (v := .pointer (some ⟨x, 0, none⟩)) rfl (by kernel_rfl) (by kernel_rfl) (by kernel_rfl) (fun _ _ _ h => hp _ _ _ _ h) (.inl ⟨by kernel_rfl, fun V hV => ?_⟩) hS2 ?_
    · have s0 := hV
      try obtain ⟨s1, s2⟩ := s0
      go_split_ands
      go_simp
      all_goals (first | assumption | skip)
    simp only [Act.put, List.setIfInBounds_toArray, List.set_cons_zero, List.set_cons_succ]
    refine wpAnyH_ready (rs := [11]) (by kernel_rfl) (by simp) ?_
    refine (AllReadyH.cons (o := { dst := none, op := Op.store 31 (Operand.tmp 47) (Operand.tmp 45), type := 0, pos := "top01.go:128", after := #[{ on := 10, ground := Ground.data }, { on := 8, ground := Ground.data }, { on := 8, ground := Ground.chain }, { on := 0, ground := Ground.phase }, { on := 1, ground := Ground.phase }, { on := 2, ground := Ground.phase }, { on := 3, ground := Ground.phase }, { on := 4, ground := Ground.phase }, { on := 5, ground := Ground.phase }, { on := 6, ground := Ground.phase }, { on := 7, ground := Ground.phase }, { on := 8, ground := Ground.phase }], guard := none }) rfl (fun K hK => ?_) AllReadyH.nil)
    go_simp
    refine hK.out _ _ (hcw w' hgr _) (fun _ => ?_)
    clear hK K
    try simp only [Act.put, List.setIfInBounds_toArray, List.set_cons_zero, List.set_cons_succ]
    exact wpAnyH_done (Q := calmD Q) (by kernel_rfl) hfin _

def regP25SOps : Array Oper := #[{ dst := some 148, op := Op.move (Operand.tmp 0), type := 30, pos := "top01.go:146", after := #[], guard := none },
  { dst := some 149, op := Op.nilCheck (Operand.tmp 148), type := 0, pos := "top01.go:146", after := #[{ on := 0, ground := Ground.data }], guard := none },
  { dst := some 150, op := Op.fieldAddr 35 (Operand.tmp 149) 1, type := 0, pos := "top01.go:146", after := #[{ on := 1, ground := Ground.data }], guard := none },
  { dst := some 151, op := Op.load 32 (Operand.tmp 150), type := 32, pos := "top01.go:146", after := #[{ on := 2, ground := Ground.data }], guard := none },
  { dst := some 152, op := Op.move (Operand.tmp 8), type := 3, pos := "top01.go:146", after := #[], guard := none },
  { dst := some 153, op := Op.move (Operand.tmp 0), type := 30, pos := "top01.go:146", after := #[], guard := none },
  { dst := some 154, op := Op.nilCheck (Operand.tmp 153), type := 0, pos := "top01.go:146", after := #[{ on := 5, ground := Ground.data }], guard := none },
  { dst := some 155, op := Op.fieldAddr 35 (Operand.tmp 154) 1, type := 0, pos := "top01.go:146", after := #[{ on := 6, ground := Ground.data }], guard := none },
  { dst := some 156, op := Op.load 32 (Operand.tmp 155), type := 32, pos := "top01.go:146", after := #[{ on := 7, ground := Ground.data }], guard := none },
  { dst := some 157, op := Op.move (Operand.tmp 8), type := 3, pos := "top01.go:146", after := #[], guard := none },
  { dst := some 158, op := Op.indexAddr 32 (Operand.tmp 156) (Operand.tmp 157), type := 0, pos := "top01.go:146", after := #[{ on := 8, ground := Ground.data }, { on := 9, ground := Ground.data }], guard := none },
  { dst := some 159, op := Op.load 36 (Operand.tmp 158), type := 36, pos := "top01.go:146", after := #[{ on := 10, ground := Ground.data }], guard := none },
  { dst := some 160, op := Op.fieldAddr 38 (Operand.tmp 3) 1, type := 0, pos := "top01.go:146", after := #[], guard := none },
  { dst := some 161, op := Op.load 3 (Operand.tmp 160), type := 3, pos := "top01.go:146", after := #[{ on := 12, ground := Ground.data }], guard := none },
  { dst := some 162, op := Op.call { callee := Callee.builtin Builtin.max, args := #[Operand.tmp 161, Operand.const (Value.int IntKind.i64 0)], argTypes := #[3, 3] }, type := 3, pos := "top01.go:146", after := #[{ on := 13, ground := Ground.data }], guard := none },
  { dst := some 163, op := Op.move (Operand.tmp 0), type := 30, pos := "top01.go:146", after := #[], guard := none },
  { dst := some 164, op := Op.nilCheck (Operand.tmp 163), type := 0, pos := "top01.go:146", after := #[{ on := 15, ground := Ground.data }], guard := none },
  { dst := some 165, op := Op.fieldAddr 35 (Operand.tmp 164) 1, type := 0, pos := "top01.go:146", after := #[{ on := 16, ground := Ground.data }], guard := none },
  { dst := some 166, op := Op.load 32 (Operand.tmp 165), type := 32, pos := "top01.go:146", after := #[{ on := 17, ground := Ground.data }], guard := none },
  { dst := some 167, op := Op.move (Operand.tmp 8), type := 3, pos := "top01.go:146", after := #[], guard := none },
  { dst := some 168, op := Op.indexAddr 32 (Operand.tmp 166) (Operand.tmp 167), type := 0, pos := "top01.go:146", after := #[{ on := 18, ground := Ground.data }, { on := 19, ground := Ground.data }], guard := none },
  { dst := some 169, op := Op.load 36 (Operand.tmp 168), type := 36, pos := "top01.go:146", after := #[{ on := 20, ground := Ground.data }], guard := none },
  { dst := some 170, op := Op.call { callee := Callee.builtin Builtin.len, args := #[Operand.tmp 169], argTypes := #[36] }, type := 3, pos := "top01.go:146", after := #[{ on := 21, ground := Ground.data }], guard := none },
  { dst := some 171, op := Op.call { callee := Callee.builtin Builtin.min, args := #[Operand.tmp 162, Operand.tmp 170], argTypes := #[3, 3] }, type := 3, pos := "top01.go:146", after := #[{ on := 14, ground := Ground.data }, { on := 22, ground := Ground.data }], guard := none },
  { dst := some 172, op := Op.slice 36 (Operand.tmp 159) none (some (Operand.tmp 171)) none, type := 36, pos := "top01.go:146", after := #[{ on := 11, ground := Ground.data }, { on := 23, ground := Ground.data }], guard := none },
  { dst := some 173, op := Op.indexAddr 32 (Operand.tmp 151) (Operand.tmp 152), type := 0, pos := "top01.go:146", after := #[{ on := 3, ground := Ground.data }, { on := 4, ground := Ground.data }, { on := 0, ground := Ground.phase }, { on := 1, ground := Ground.phase }, { on := 2, ground := Ground.phase }, { on := 3, ground := Ground.phase }, { on := 4, ground := Ground.phase }, { on := 5, ground := Ground.phase }, { on := 6, ground := Ground.phase }, { on := 7, ground := Ground.phase }, { on := 8, ground := Ground.phase }, { on := 9, ground := Ground.phase }, { on := 10, ground := Ground.phase }, { on := 11, ground := Ground.phase }, { on := 12, ground := Ground.phase }, { on := 13, ground := Ground.phase }, { on := 14, ground := Ground.phase }, { on := 15, ground := Ground.phase }, { on := 16, ground := Ground.phase }, { on := 17, ground := Ground.phase }, { on := 18, ground := Ground.phase }, { on := 19, ground := Ground.phase }, { on := 20, ground := Ground.phase }, { on := 21, ground := Ground.phase }, { on := 22, ground := Ground.phase }, { on := 23, ground := Ground.phase }, { on := 24, ground := Ground.phase }], guard := none },
  { dst := none, op := Op.store 36 (Operand.tmp 173) (Operand.tmp 172), type := 0, pos := "top01.go:146", after := #[{ on := 25, ground := Ground.data }, { on := 24, ground := Ground.data }, { on := 0, ground := Ground.phase }, { on := 1, ground := Ground.phase }, { on := 2, ground := Ground.phase }, { on := 3, ground := Ground.phase }, { on := 4, ground := Ground.phase }, { on := 5, ground := Ground.phase }, { on := 6, ground := Ground.phase }, { on := 7, ground := Ground.phase }, { on := 8, ground := Ground.phase }, { on := 9, ground := Ground.phase }, { on := 10, ground := Ground.phase }, { on := 11, ground := Ground.phase }, { on := 12, ground := Ground.phase }, { on := 13, ground := Ground.phase }, { on := 14, ground := Ground.phase }, { on := 15, ground := Ground.phase }, { on := 16, ground := Ground.phase }, { on := 17, ground := Ground.phase }, { on := 18, ground := Ground.phase }, { on := 19, ground := Ground.phase }, { on := 20, ground := Ground.phase }, { on := 21, ground := Ground.phase }, { on := 22, ground := Ground.phase }, { on := 23, ground := Ground.phase }, { on := 24, ground := Ground.phase }], guard := none }]
set_option maxRecDepth 100000 in
set_option maxHeartbeats 4000000 in
theorem regP25S (Q : Exit → Act → World → Prop) (Tb x gB nf cf i : Nat) (N M : Int) (gv nv cv k : Nat) {t1 t2 t4 t5 t6 t7 t9 t10 t11 t12 t13 t14 t15 t16 t17 t18 t19 t20 t21 t22 t23 t24 t25 t26 t27 t28 t29 t30 t31 t32 t33 t34 t35 t36 t37 t38 t39 t40 t41 t42 t43 t44 t45 t46 t47 t48 t49 t50 t51 t52 t53 t54 t55 t56 t57 t58 t59 t60 t61 t62 t63 t64 t65 t66 t67 t68 t69 t70 t71 t72 t73 t74 t75 t76 t77 t78 t79 t80 t81 t82 t83 t84 t85 t86 t87 t88 t89 t90 t91 t92 t93 t94 t95 t96 t97 t98 t99 t100 t101 t102 t103 t104 t105 t106 t107 t108 t109 t110 t111 t112 t113 t114 t115 t116 t117 t118 t119 t120 t121 t122 t123 t124 t125 t126 t127 t128 t129 t130 t131 t132 t133 t134 t135 t136 t137 t138 t139 t140 t141 t142 t143 t144 t145 t146 t147 t148 t149 t150 t151 t152 t153 t154 t155 t156 t157 t158 t159 t160 t161 t162 t163 t164 t165 t166 t167 t168 t169 t170 t171 t172 t173 t174 t175 t176 t177 t178 t179 t180 t181 t182 t183 t184 t185 t186 t187 t188 : Value} (W : World)
    (hk0 : (0 : Int) ≤ (k : Int)) (hkc : (k : Int) ≤ (cv : Int)) (hin : (i : Int) < (nf : Int)) (hM : (if N < 0 then 0 else N) = M) (hm : (if (nv : Int) < M then (nv : Int) else M) = (k : Int)) (hB : W.drew.cell? ⟨gB, i, none⟩ = some (.slice (some ⟨gv, 0, none⟩) nv cv)) (hz : W.drew.frozen? ⟨gB, i, none⟩ = false) (hS : W.drew.cell? ⟨x, 1, none⟩ = some (.slice (some ⟨gB, 0, none⟩) nf cf) ∧ W.drew.cell? ⟨Tb, 1, none⟩ = some (.int .i64 N)) (hcx : ∀ y, (W.drew.setCell ⟨gB, i, none⟩ y).cell? ⟨x, 1, none⟩ = some (.slice (some ⟨gB, 0, none⟩) nf cf) ∧ (W.drew.setCell ⟨gB, i, none⟩ y).cell? ⟨Tb, 1, none⟩ = some (.int .i64 N))
    (h : Q .normal { tmps := (.pointer (some ⟨x, 0, none⟩) :: t1 :: t2 :: .pointer (some ⟨Tb, 0, none⟩) :: t4 :: t5 :: t6 :: t7 :: .int .i64 (i : Int) :: t9 :: t10 :: t11 :: t12 :: t13 :: t14 :: t15 :: t16 :: t17 :: t18 :: t19 :: t20 :: t21 :: t22 :: t23 :: t24 :: t25 :: t26 :: t27 :: t28 :: t29 :: t30 :: t31 :: t32 :: t33 :: t34 :: t35 :: t36 :: t37 :: t38 :: t39 :: t40 :: t41 :: t42 :: t43 :: t44 :: t45 :: t46 :: t47 :: t48 :: t49 :: t50 :: t51 :: t52 :: t53 :: t54 :: t55 :: t56 :: t57 :: t58 :: t59 :: t60 :: t61 :: t62 :: t63 :: t64 :: t65 :: t66 :: t67 :: t68 :: t69 :: t70 :: t71 :: t72 :: t73 :: t74 :: t75 :: t76 :: t77 :: t78 :: t79 :: t80 :: t81 :: t82 :: t83 :: t84 :: t85 :: t86 :: t87 :: t88 :: t89 :: t90 :: t91 :: t92 :: t93 :: t94 :: t95 :: t96 :: t97 :: t98 :: t99 :: t100 :: t101 :: t102 :: t103 :: t104 :: t105 :: t106 :: t107 :: t108 :: t109 :: t110 :: t111 :: t112 :: t113 :: t114 :: t115 :: t116 :: t117 :: t118 :: t119 :: t120 :: t121 :: t122 :: t123 :: t124 :: t125 :: t126 :: t127 :: t128 :: t129 :: t130 :: t131 :: t132 :: t133 :: t134 :: t135 :: t136 :: t137 :: t138 :: t139 :: t140 :: t141 :: t142 :: t143 :: t144 :: t145 :: t146 :: t147 :: .pointer (some ⟨x, 0, none⟩) :: .pointer (some ⟨x, 0, none⟩) :: .pointer (some ⟨x, 1, none⟩) :: .slice (some ⟨gB, 0, none⟩) nf cf :: .int .i64 (i : Int) :: .pointer (some ⟨x, 0, none⟩) :: .pointer (some ⟨x, 0, none⟩) :: .pointer (some ⟨x, 1, none⟩) :: .slice (some ⟨gB, 0, none⟩) nf cf :: .int .i64 (i : Int) :: .pointer (some ⟨gB, i, none⟩) :: .slice (some ⟨gv, 0, none⟩) nv cv :: .pointer (some ⟨Tb, 1, none⟩) :: .int .i64 N :: .int .i64 M :: .pointer (some ⟨x, 0, none⟩) :: .pointer (some ⟨x, 0, none⟩) :: .pointer (some ⟨x, 1, none⟩) :: .slice (some ⟨gB, 0, none⟩) nf cf :: .int .i64 (i : Int) :: .pointer (some ⟨gB, i, none⟩) :: .slice (some ⟨gv, 0, none⟩) nv cv :: .int .i64 ((nv : Nat) : Int) :: .int .i64 ((k : Nat) : Int) :: .slice (some ⟨gv, 0, none⟩) k cv :: .pointer (some ⟨gB, i, none⟩) :: t174 :: t175 :: t176 :: t177 :: t178 :: t179 :: t180 :: t181 :: t182 :: t183 :: t184 :: t185 :: t186 :: t187 :: t188 :: []).toArray, defers := [] } (W.drew.setCell ⟨gB, i, none⟩ (.slice (some ⟨gv, 0, none⟩) k cv))) :
    (Code.region 25 regP25SOps true).wp Tryd.prog Q { tmps := (.pointer (some ⟨x, 0, none⟩) :: t1 :: t2 :: .pointer (some ⟨Tb, 0, none⟩) :: t4 :: t5 :: t6 :: t7 :: .int .i64 (i : Int) :: t9 :: t10 :: t11 :: t12 :: t13 :: t14 :: t15 :: t16 :: t17 :: t18 :: t19 :: t20 :: t21 :: t22 :: t23 :: t24 :: t25 :: t26 :: t27 :: t28 :: t29 :: t30 :: t31 :: t32 :: t33 :: t34 :: t35 :: t36 :: t37 :: t38 :: t39 :: t40 :: t41 :: t42 :: t43 :: t44 :: t45 :: t46 :: t47 :: t48 :: t49 :: t50 :: t51 :: t52 :: t53 :: t54 :: t55 :: t56 :: t57 :: t58 :: t59 :: t60 :: t61 :: t62 :: t63 :: t64 :: t65 :: t66 :: t67 :: t68 :: t69 :: t70 :: t71 :: t72 :: t73 :: t74 :: t75 :: t76 :: t77 :: t78 :: t79 :: t80 :: t81 :: t82 :: t83 :: t84 :: t85 :: t86 :: t87 :: t88 :: t89 :: t90 :: t91 :: t92 :: t93 :: t94 :: t95 :: t96 :: t97 :: t98 :: t99 :: t100 :: t101 :: t102 :: t103 :: t104 :: t105 :: t106 :: t107 :: t108 :: t109 :: t110 :: t111 :: t112 :: t113 :: t114 :: t115 :: t116 :: t117 :: t118 :: t119 :: t120 :: t121 :: t122 :: t123 :: t124 :: t125 :: t126 :: t127 :: t128 :: t129 :: t130 :: t131 :: t132 :: t133 :: t134 :: t135 :: t136 :: t137 :: t138 :: t139 :: t140 :: t141 :: t142 :: t143 :: t144 :: t145 :: t146 :: t147 :: t148 :: t149 :: t150 :: t151 :: t152 :: t153 :: t154 :: t155 :: t156 :: t157 :: t158 :: t159 :: t160 :: t161 :: t162 :: t163 :: t164 :: t165 :: t166 :: t167 :: t168 :: t169 :: t170 :: t171 :: t172 :: t173 :: t174 :: t175 :: t176 :: t177 :: t178 :: t179 :: t180 :: t181 :: t182 :: t183 :: t184 :: t185 :: t186 :: t187 :: t188 :: []).toArray, defers := [] } W := by
  refine Code.wp_mono (fun _ _ _ h => calmD_le h) ?_
  have hp : ∀ c a a' w, calmD Q (.panic c) a w → calmD Q (.panic c) a' w := fun _ _ _ _ h => h
  refine wp_region_held (S := fun V => V.cell? ⟨x, 1, none⟩ = some (.slice (some ⟨gB, 0, none⟩) nf cf) ∧ V.cell? ⟨Tb, 1, none⟩ = some (.int .i64 N)) (by kernel_rfl) ?_
  change wpAnyH _ _ _ _ _ _ _ _ W.drew
  have hi0 : (0 : Int) ≤ (i : Int) := by omega
  refine wpAnyH_take (i := 0) (oi := { dst := some 148, op := Op.move (Operand.tmp 0), type := 30, pos := "top01.go:146", after := #[], guard := none }) (v := .pointer (some ⟨x, 0, none⟩)) rfl (by kernel_rfl) (by kernel_rfl) (by kernel_rfl) (fun _ _ _ h => hp _ _ _ _ h) (.inl ⟨by kernel_rfl, fun V hV => ?_⟩) hS ?_
  · have s0 := hV
    try obtain ⟨s1, s2⟩ := s0
    go_split_ands
    go_simp
    all_goals (first | assumption | skip)
  simp only [Act.put, List.setIfInBounds_toArray, List.set_cons_zero, List.set_cons_succ]
  refine wpAnyH_take (i := 1) (oi := { dst := some 149, op := Op.nilCheck (Operand.tmp 148), type := 0, pos := "top01.go:146", after := #[{ on := 0, ground := Ground.data }], guard := none }) (v := .pointer (some ⟨x, 0, none⟩)) rfl (by kernel_rfl) (by kernel_rfl) (by kernel_rfl) (fun _ _ _ h => hp _ _ _ _ h) (.inl ⟨by kernel_rfl, fun V hV => ?_⟩) hS ?_
  · have s0 := hV
    try obtain ⟨s1, s2⟩ := s0
    go_split_ands
    go_simp
    all_goals (first | assumption | skip)
  simp only [Act.put, List.setIfInBounds_toArray, List.set_cons_zero, List.set_cons_succ]
  refine wpAnyH_take (i := 2) (oi := { dst := some 150, op := Op.fieldAddr 35 (Operand.tmp 149) 1, type := 0, pos := "top01.go:146", after := #[{ on := 1, ground := Ground.data }], guard := none }) (v := .pointer (some ⟨x, 1, none⟩)) rfl (by kernel_rfl) (by kernel_rfl) (by kernel_rfl) (fun _ _ _ h => hp _ _ _ _ h) (.inl ⟨by kernel_rfl, fun V hV => ?_⟩) hS ?_
  · have s0 := hV
    try obtain ⟨s1, s2⟩ := s0
    go_split_ands
    go_simp
    all_goals (first | assumption | skip)
  simp only [Act.put, List.setIfInBounds_toArray, List.set_cons_zero, List.set_cons_succ]
  refine wpAnyH_take (i := 3) (oi := { dst := some 151, op := Op.load 32 (Operand.tmp 150), type := 32, pos := "top01.go:146", after := #[{ on := 2, ground := Ground.data }], guard := none }) (v := .slice (some ⟨gB, 0, none⟩) nf cf) rfl (by kernel_rfl) (by kernel_rfl) (by kernel_rfl) (fun _ _ _ h => hp _ _ _ _ h) (.inl ⟨by kernel_rfl, fun V hV => ?_⟩) hS ?_
  · have s0 := hV
    try obtain ⟨s1, s2⟩ := s0
    go_split_ands
    go_simp
    all_goals (first | assumption | skip)
  simp only [Act.put, List.setIfInBounds_toArray, List.set_cons_zero, List.set_cons_succ]
  refine wpAnyH_take (i := 4) (oi := { dst := some 152, op := Op.move (Operand.tmp 8), type := 3, pos := "top01.go:146", after := #[], guard := none }) (v := .int .i64 (i : Int)) rfl (by kernel_rfl) (by kernel_rfl) (by kernel_rfl) (fun _ _ _ h => hp _ _ _ _ h) (.inl ⟨by kernel_rfl, fun V hV => ?_⟩) hS ?_
  · have s0 := hV
    try obtain ⟨s1, s2⟩ := s0
    go_split_ands
    go_simp
    all_goals (first | assumption | skip)
  simp only [Act.put, List.setIfInBounds_toArray, List.set_cons_zero, List.set_cons_succ]
  refine wpAnyH_take (i := 5) (oi := { dst := some 153, op := Op.move (Operand.tmp 0), type := 30, pos := "top01.go:146", after := #[], guard := none }) (v := .pointer (some ⟨x, 0, none⟩)) rfl (by kernel_rfl) (by kernel_rfl) (by kernel_rfl) (fun _ _ _ h => hp _ _ _ _ h) (.inl ⟨by kernel_rfl, fun V hV => ?_⟩) hS ?_
  · have s0 := hV
    try obtain ⟨s1, s2⟩ := s0
    go_split_ands
    go_simp
    all_goals (first | assumption | skip)
  simp only [Act.put, List.setIfInBounds_toArray, List.set_cons_zero, List.set_cons_succ]
  refine wpAnyH_take (i := 6) (oi := { dst := some 154, op := Op.nilCheck (Operand.tmp 153), type := 0, pos := "top01.go:146", after := #[{ on := 5, ground := Ground.data }], guard := none }) (v := .pointer (some ⟨x, 0, none⟩)) rfl (by kernel_rfl) (by kernel_rfl) (by kernel_rfl) (fun _ _ _ h => hp _ _ _ _ h) (.inl ⟨by kernel_rfl, fun V hV => ?_⟩) hS ?_
  · have s0 := hV
    try obtain ⟨s1, s2⟩ := s0
    go_split_ands
    go_simp
    all_goals (first | assumption | skip)
  simp only [Act.put, List.setIfInBounds_toArray, List.set_cons_zero, List.set_cons_succ]
  refine wpAnyH_take (i := 7) (oi := { dst := some 155, op := Op.fieldAddr 35 (Operand.tmp 154) 1, type := 0, pos := "top01.go:146", after := #[{ on := 6, ground := Ground.data }], guard := none }) (v := .pointer (some ⟨x, 1, none⟩)) rfl (by kernel_rfl) (by kernel_rfl) (by kernel_rfl) (fun _ _ _ h => hp _ _ _ _ h) (.inl ⟨by kernel_rfl, fun V hV => ?_⟩) hS ?_
  · have s0 := hV
    try obtain ⟨s1, s2⟩ := s0
    go_split_ands
    go_simp
    all_goals (first | assumption | skip)
  simp only [Act.put, List.setIfInBounds_toArray, List.set_cons_zero, List.set_cons_succ]
  refine wpAnyH_take (i := 8) (oi := { dst := some 156, op := Op.load 32 (Operand.tmp 155), type := 32, pos := "top01.go:146", after := #[{ on := 7, ground := Ground.data }], guard := none }) (v := .slice (some ⟨gB, 0, none⟩) nf cf) rfl (by kernel_rfl) (by kernel_rfl) (by kernel_rfl) (fun _ _ _ h => hp _ _ _ _ h) (.inl ⟨by kernel_rfl, fun V hV => ?_⟩) hS ?_
  · have s0 := hV
    try obtain ⟨s1, s2⟩ := s0
    go_split_ands
    go_simp
    all_goals (first | assumption | skip)
  simp only [Act.put, List.setIfInBounds_toArray, List.set_cons_zero, List.set_cons_succ]
  refine wpAnyH_take (i := 9) (oi := { dst := some 157, op := Op.move (Operand.tmp 8), type := 3, pos := "top01.go:146", after := #[], guard := none }) (v := .int .i64 (i : Int)) rfl (by kernel_rfl) (by kernel_rfl) (by kernel_rfl) (fun _ _ _ h => hp _ _ _ _ h) (.inl ⟨by kernel_rfl, fun V hV => ?_⟩) hS ?_
  · have s0 := hV
    try obtain ⟨s1, s2⟩ := s0
    go_split_ands
    go_simp
    all_goals (first | assumption | skip)
  simp only [Act.put, List.setIfInBounds_toArray, List.set_cons_zero, List.set_cons_succ]
  refine wpAnyH_take (i := 10) (oi := { dst := some 158, op := Op.indexAddr 32 (Operand.tmp 156) (Operand.tmp 157), type := 0, pos := "top01.go:146", after := #[{ on := 8, ground := Ground.data }, { on := 9, ground := Ground.data }], guard := none }) (v := .pointer (some ⟨gB, i, none⟩)) rfl (by kernel_rfl) (by kernel_rfl) (by kernel_rfl) (fun _ _ _ h => hp _ _ _ _ h) (.inl ⟨by kernel_rfl, fun V hV => ?_⟩) hS ?_
  · have s0 := hV
    try obtain ⟨s1, s2⟩ := s0
    go_split_ands
    go_simp
    all_goals (first | assumption | skip)
  simp only [Act.put, List.setIfInBounds_toArray, List.set_cons_zero, List.set_cons_succ]
  refine wpAnyH_take (i := 12) (oi := { dst := some 160, op := Op.fieldAddr 38 (Operand.tmp 3) 1, type := 0, pos := "top01.go:146", after := #[], guard := none }) (v := .pointer (some ⟨Tb, 1, none⟩)) rfl (by kernel_rfl) (by kernel_rfl) (by kernel_rfl) (fun _ _ _ h => hp _ _ _ _ h) (.inl ⟨by kernel_rfl, fun V hV => ?_⟩) hS ?_
  · have s0 := hV
    try obtain ⟨s1, s2⟩ := s0
    go_split_ands
    go_simp
    all_goals (first | assumption | skip)
  simp only [Act.put, List.setIfInBounds_toArray, List.set_cons_zero, List.set_cons_succ]
  refine wpAnyH_take (i := 13) (oi := { dst := some 161, op := Op.load 3 (Operand.tmp 160), type := 3, pos := "top01.go:146", after := #[{ on := 12, ground := Ground.data }], guard := none }) (v := .int .i64 N) rfl (by kernel_rfl) (by kernel_rfl) (by kernel_rfl) (fun _ _ _ h => hp _ _ _ _ h) (.inl ⟨by kernel_rfl, fun V hV => ?_⟩) hS ?_
  · have s0 := hV
    try obtain ⟨s1, s2⟩ := s0
    go_split_ands
    go_simp
    all_goals (first | assumption | skip)
  simp only [Act.put, List.setIfInBounds_toArray, List.set_cons_zero, List.set_cons_succ]
  refine wpAnyH_take (i := 14) (oi := { dst := some 162, op := Op.call { callee := Callee.builtin Builtin.max, args := #[Operand.tmp 161, Operand.const (Value.int IntKind.i64 0)], argTypes := #[3, 3] }, type := 3, pos := "top01.go:146", after := #[{ on := 13, ground := Ground.data }], guard := none }) (v := .int .i64 M) rfl (by kernel_rfl) (by kernel_rfl) (by kernel_rfl) (fun _ _ _ h => hp _ _ _ _ h) (.inl ⟨by kernel_rfl, fun V hV => ?_⟩) hS ?_
  · have s0 := hV
    try obtain ⟨s1, s2⟩ := s0
    go_split_ands
    go_simp
    all_goals (first | assumption | skip)
  simp only [Act.put, List.setIfInBounds_toArray, List.set_cons_zero, List.set_cons_succ]
  refine wpAnyH_take (i := 15) (oi := { dst := some 163, op := Op.move (Operand.tmp 0), type := 30, pos := "top01.go:146", after := #[], guard := none }) (v := .pointer (some ⟨x, 0, none⟩)) rfl (by kernel_rfl) (by kernel_rfl) (by kernel_rfl) (fun _ _ _ h => hp _ _ _ _ h) (.inl ⟨by kernel_rfl, fun V hV => ?_⟩) hS ?_
  · have s0 := hV
    try obtain ⟨s1, s2⟩ := s0
    go_split_ands
    go_simp
    all_goals (first | assumption | skip)
  simp only [Act.put, List.setIfInBounds_toArray, List.set_cons_zero, List.set_cons_succ]
  refine wpAnyH_take (i := 16) (oi := { dst := some 164, op := Op.nilCheck (Operand.tmp 163), type := 0, pos := "top01.go:146", after := #[{ on := 15, ground := Ground.data }], guard := none }) (v := .pointer (some ⟨x, 0, none⟩)) rfl (by kernel_rfl) (by kernel_rfl) (by kernel_rfl) (fun _ _ _ h => hp _ _ _ _ h) (.inl ⟨by kernel_rfl, fun V hV => ?_⟩) hS ?_
  · have s0 := hV
    try obtain ⟨s1, s2⟩ := s0
    go_split_ands
    go_simp
    all_goals (first | assumption | skip)
  simp only [Act.put, List.setIfInBounds_toArray, List.set_cons_zero, List.set_cons_succ]
  refine wpAnyH_take (i := 17) (oi := { dst := some 165, op := Op.fieldAddr 35 (Operand.tmp 164) 1, type := 0, pos := "top01.go:146", after := #[{ on := 16, ground := Ground.data }], guard := none }) (v := .pointer (some ⟨x, 1, none⟩)) rfl (by kernel_rfl) (by kernel_rfl) (by kernel_rfl) (fun _ _ _ h => hp _ _ _ _ h) (.inl ⟨by kernel_rfl, fun V hV => ?_⟩) hS ?_
  · have s0 := hV
    try obtain ⟨s1, s2⟩ := s0
    go_split_ands
    go_simp
    all_goals (first | assumption | skip)
  simp only [Act.put, List.setIfInBounds_toArray, List.set_cons_zero, List.set_cons_succ]
  refine wpAnyH_take (i := 18) (oi := { dst := some 166, op := Op.load 32 (Operand.tmp 165), type := 32, pos := "top01.go:146", after := #[{ on := 17, ground := Ground.data }], guard := none }) (v := .slice (some ⟨gB, 0, none⟩) nf cf) rfl (by kernel_rfl) (by kernel_rfl) (by kernel_rfl) (fun _ _ _ h => hp _ _ _ _ h) (.inl ⟨by kernel_rfl, fun V hV => ?_⟩) hS ?_
  · have s0 := hV
    try obtain ⟨s1, s2⟩ := s0
    go_split_ands
    go_simp
    all_goals (first | assumption | skip)
  simp only [Act.put, List.setIfInBounds_toArray, List.set_cons_zero, List.set_cons_succ]
  refine wpAnyH_take (i := 19) (oi := { dst := some 167, op := Op.move (Operand.tmp 8), type := 3, pos := "top01.go:146", after := #[], guard := none }) (v := .int .i64 (i : Int)) rfl (by kernel_rfl) (by kernel_rfl) (by kernel_rfl) (fun _ _ _ h => hp _ _ _ _ h) (.inl ⟨by kernel_rfl, fun V hV => ?_⟩) hS ?_
  · have s0 := hV
    try obtain ⟨s1, s2⟩ := s0
    go_split_ands
    go_simp
    all_goals (first | assumption | skip)
  simp only [Act.put, List.setIfInBounds_toArray, List.set_cons_zero, List.set_cons_succ]
  refine wpAnyH_take (i := 20) (oi := { dst := some 168, op := Op.indexAddr 32 (Operand.tmp 166) (Operand.tmp 167), type := 0, pos := "top01.go:146", after := #[{ on := 18, ground := Ground.data }, { on := 19, ground := Ground.data }], guard := none }) (v := .pointer (some ⟨gB, i, none⟩)) rfl (by kernel_rfl) (by kernel_rfl) (by kernel_rfl) (fun _ _ _ h => hp _ _ _ _ h) (.inl ⟨by kernel_rfl, fun V hV => ?_⟩) hS ?_
  · have s0 := hV
    try obtain ⟨s1, s2⟩ := s0
    go_split_ands
    go_simp
    all_goals (first | assumption | skip)
  simp only [Act.put, List.setIfInBounds_toArray, List.set_cons_zero, List.set_cons_succ]
  refine wpAnyH_ready (rs := [11, 21]) (by kernel_rfl) (by simp) ?_
  refine (AllReadyH.cons (o := { dst := some 159, op := Op.load 36 (Operand.tmp 158), type := 36, pos := "top01.go:146", after := #[{ on := 10, ground := Ground.data }], guard := none }) rfl (fun K hK => ?_) (AllReadyH.cons (o := { dst := some 169, op := Op.load 36 (Operand.tmp 168), type := 36, pos := "top01.go:146", after := #[{ on := 20, ground := Ground.data }], guard := none }) rfl (fun K hK => ?_) AllReadyH.nil))
  · go_simp
    refine hK.out _ _ hS (fun _ => ?_)
    clear hK K
    try simp only [Act.put, List.setIfInBounds_toArray, List.set_cons_zero, List.set_cons_succ]
    refine wpAnyH_ready (rs := [21]) (by kernel_rfl) (by simp) ?_
    refine (AllReadyH.cons (o := { dst := some 169, op := Op.load 36 (Operand.tmp 168), type := 36, pos := "top01.go:146", after := #[{ on := 20, ground := Ground.data }], guard := none }) rfl (fun K hK => ?_) AllReadyH.nil)
    go_simp
    refine hK.out _ _ hS (fun _ => ?_)
    clear hK K
    try simp only [Act.put, List.setIfInBounds_toArray, List.set_cons_zero, List.set_cons_succ]
    refine wpAnyH_take (i := 22) (oi := { dst := some 170, op := Op.call { callee := Callee.builtin Builtin.len, args := #[Operand.tmp 169], argTypes := #[36] }, type := 3, pos := "top01.go:146", after := #[{ on := 21, ground := Ground.data }], guard := none }) (v := .int .i64 ((nv : Nat) : Int)) rfl (by kernel_rfl) (by kernel_rfl) (by kernel_rfl) (fun _ _ _ h => hp _ _ _ _ h) (.inl ⟨by kernel_rfl, fun V hV => ?_⟩) hS ?_
    · have s0 := hV
      try obtain ⟨s1, s2⟩ := s0
      go_split_ands
      go_simp
      all_goals (first | assumption | skip)
    simp only [Act.put, List.setIfInBounds_toArray, List.set_cons_zero, List.set_cons_succ]
    refine wpAnyH_take (i := 23) (oi := { dst := some 171, op := Op.call { callee := Callee.builtin Builtin.min, args := #[Operand.tmp 162, Operand.tmp 170], argTypes := #[3, 3] }, type := 3, pos := "top01.go:146", after := #[{ on := 14, ground := Ground.data }, { on := 22, ground := Ground.data }], guard := none }) (v := .int .i64 ((k : Nat) : Int)) rfl (by kernel_rfl) (by kernel_rfl) (by kernel_rfl) (fun _ _ _ h => hp _ _ _ _ h) (.inl ⟨by kernel_rfl, fun V hV => ?_⟩) hS ?_
    · have s0 := hV
      try obtain ⟨s1, s2⟩ := s0
      go_split_ands
      go_simp
      all_goals (first | assumption | skip)
    simp only [Act.put, List.setIfInBounds_toArray, List.set_cons_zero, List.set_cons_succ]
    refine wpAnyH_take (i := 24) (oi := { dst := some 172, op := Op.slice 36 (Operand.tmp 159) none (some (Operand.tmp 171)) none, type := 36, pos := "top01.go:146", after := #[{ on := 11, ground := Ground.data }, { on := 23, ground := Ground.data }], guard := none }) (v := .slice (some ⟨gv, 0, none⟩) k cv) rfl (by kernel_rfl) (by kernel_rfl) (by kernel_rfl) (fun _ _ _ h => hp _ _ _ _ h) (.inl ⟨by kernel_rfl, fun V hV => ?_⟩) hS ?_
    · have s0 := hV
      try obtain ⟨s1, s2⟩ := s0
      go_split_ands
      go_simp
      all_goals (first | assumption | skip)
    simp only [Act.put, List.setIfInBounds_toArray, List.set_cons_zero, List.set_cons_succ]
    refine wpAnyH_take (i := 25) (oi := { dst := some 173, op := Op.indexAddr 32 (Operand.tmp 151) (Operand.tmp 152), type := 0, pos := "top01.go:146", after := #[{ on := 3, ground := Ground.data }, { on := 4, ground := Ground.data }, { on := 0, ground := Ground.phase }, { on := 1, ground := Ground.phase }, { on := 2, ground := Ground.phase }, { on := 3, ground := Ground.phase }, { on := 4, ground := Ground.phase }, { on := 5, ground := Ground.phase }, { on := 6, ground := Ground.phase }, { on := 7, ground := Ground.phase }, { on := 8, ground := Ground.phase }, { on := 9, ground := Ground.phase }, { on := 10, ground := Ground.phase }, { on := 11, ground := Ground.phase }, { on := 12, ground := Ground.phase }, { on := 13, ground := Ground.phase }, { on := 14, ground := Ground.phase }, { on := 15, ground := Ground.phase }, { on := 16, ground := Ground.phase }, { on := 17, ground := Ground.phase }, { on := 18, ground := Ground.phase }, { on := 19, ground := Ground.phase }, { on := 20, ground := Ground.phase }, { on := 21, ground := Ground.phase }, { on := 22, ground := Ground.phase }, { on := 23, ground := Ground.phase }, { on := 24, ground := Ground.phase }], guard := none }) (v := .pointer (some ⟨gB, i, none⟩)) rfl (by kernel_rfl) (by kernel_rfl) (by kernel_rfl) (fun _ _ _ h => hp _ _ _ _ h) (.inl ⟨by kernel_rfl, fun V hV => ?_⟩) hS ?_
    · have s0 := hV
      try obtain ⟨s1, s2⟩ := s0
      go_split_ands
      go_simp
      all_goals (first | assumption | skip)
    simp only [Act.put, List.setIfInBounds_toArray, List.set_cons_zero, List.set_cons_succ]
    refine wpAnyH_ready (rs := [26]) (by kernel_rfl) (by simp) ?_
    refine (AllReadyH.cons (o := { dst := none, op := Op.store 36 (Operand.tmp 173) (Operand.tmp 172), type := 0, pos := "top01.go:146", after := #[{ on := 25, ground := Ground.data }, { on := 24, ground := Ground.data }, { on := 0, ground := Ground.phase }, { on := 1, ground := Ground.phase }, { on := 2, ground := Ground.phase }, { on := 3, ground := Ground.phase }, { on := 4, ground := Ground.phase }, { on := 5, ground := Ground.phase }, { on := 6, ground := Ground.phase }, { on := 7, ground := Ground.phase }, { on := 8, ground := Ground.phase }, { on := 9, ground := Ground.phase }, { on := 10, ground := Ground.phase }, { on := 11, ground := Ground.phase }, { on := 12, ground := Ground.phase }, { on := 13, ground := Ground.phase }, { on := 14, ground := Ground.phase }, { on := 15, ground := Ground.phase }, { on := 16, ground := Ground.phase }, { on := 17, ground := Ground.phase }, { on := 18, ground := Ground.phase }, { on := 19, ground := Ground.phase }, { on := 20, ground := Ground.phase }, { on := 21, ground := Ground.phase }, { on := 22, ground := Ground.phase }, { on := 23, ground := Ground.phase }, { on := 24, ground := Ground.phase }], guard := none }) rfl (fun K hK => ?_) AllReadyH.nil)
    go_simp
    refine hK.out _ _ (hcx _) (fun _ => ?_)
    clear hK K
    try simp only [Act.put, List.setIfInBounds_toArray, List.set_cons_zero, List.set_cons_succ]
    exact wpAnyH_done (Q := calmD Q) (by kernel_rfl) h _
  · go_simp
    refine hK.out _ _ hS (fun _ => ?_)
    clear hK K
    try simp only [Act.put, List.setIfInBounds_toArray, List.set_cons_zero, List.set_cons_succ]
    refine wpAnyH_take (i := 22) (oi := { dst := some 170, op := Op.call { callee := Callee.builtin Builtin.len, args := #[Operand.tmp 169], argTypes := #[36] }, type := 3, pos := "top01.go:146", after := #[{ on := 21, ground := Ground.data }], guard := none }) (v := .int .i64 ((nv : Nat) : Int)) rfl (by kernel_rfl) (by kernel_rfl) (by kernel_rfl) (fun _ _ _ h => hp _ _ _ _ h) (.inl ⟨by kernel_rfl, fun V hV => ?_⟩) hS ?_
    · have s0 := hV
      try obtain ⟨s1, s2⟩ := s0
      go_split_ands
      go_simp
      all_goals (first | assumption | skip)
    simp only [Act.put, List.setIfInBounds_toArray, List.set_cons_zero, List.set_cons_succ]
    refine wpAnyH_take (i := 23) (oi := { dst := some 171, op := Op.call { callee := Callee.builtin Builtin.min, args := #[Operand.tmp 162, Operand.tmp 170], argTypes := #[3, 3] }, type := 3, pos := "top01.go:146", after := #[{ on := 14, ground := Ground.data }, { on := 22, ground := Ground.data }], guard := none }) (v := .int .i64 ((k : Nat) : Int)) rfl (by kernel_rfl) (by kernel_rfl) (by kernel_rfl) (fun _ _ _ h => hp _ _ _ _ h) (.inl ⟨by kernel_rfl, fun V hV => ?_⟩) hS ?_
    · have s0 := hV
      try obtain ⟨s1, s2⟩ := s0
      go_split_ands
      go_simp
      all_goals (first | assumption | skip)
    simp only [Act.put, List.setIfInBounds_toArray, List.set_cons_zero, List.set_cons_succ]
    refine wpAnyH_ready (rs := [11]) (by kernel_rfl) (by simp) ?_
    refine (AllReadyH.cons (o := { dst := some 159, op := Op.load 36 (Operand.tmp 158), type := 36, pos := "top01.go:146", after := #[{ on := 10, ground := Ground.data }], guard := none }) rfl (fun K hK => ?_) AllReadyH.nil)
    go_simp
    refine hK.out _ _ hS (fun _ => ?_)
    clear hK K
    try simp only [Act.put, List.setIfInBounds_toArray, List.set_cons_zero, List.set_cons_succ]
    refine wpAnyH_take (i := 24) (oi := { dst := some 172, op := Op.slice 36 (Operand.tmp 159) none (some (Operand.tmp 171)) none, type := 36, pos := "top01.go:146", after := #[{ on := 11, ground := Ground.data }, { on := 23, ground := Ground.data }], guard := none }) (v := .slice (some ⟨gv, 0, none⟩) k cv) rfl (by kernel_rfl) (by kernel_rfl) (by kernel_rfl) (fun _ _ _ h => hp _ _ _ _ h) (.inl ⟨by kernel_rfl, fun V hV => ?_⟩) hS ?_
    · have s0 := hV
      try obtain ⟨s1, s2⟩ := s0
      go_split_ands
      go_simp
      all_goals (first | assumption | skip)
    simp only [Act.put, List.setIfInBounds_toArray, List.set_cons_zero, List.set_cons_succ]
    refine wpAnyH_take (i := 25) (oi := { dst := some 173, op := Op.indexAddr 32 (Operand.tmp 151) (Operand.tmp 152), type := 0, pos := "top01.go:146", after := #[{ on := 3, ground := Ground.data }, { on := 4, ground := Ground.data }, { on := 0, ground := Ground.phase }, { on := 1, ground := Ground.phase }, { on := 2, ground := Ground.phase }, { on := 3, ground := Ground.phase }, { on := 4, ground := Ground.phase }, { on := 5, ground := Ground.phase }, { on := 6, ground := Ground.phase }, { on := 7, ground := Ground.phase }, { on := 8, ground := Ground.phase }, { on := 9, ground := Ground.phase }, { on := 10, ground := Ground.phase }, { on := 11, ground := Ground.phase }, { on := 12, ground := Ground.phase }, { on := 13, ground := Ground.phase }, { on := 14, ground := Ground.phase }, { on := 15, ground := Ground.phase }, { on := 16, ground := Ground.phase }, { on := 17, ground := Ground.phase }, { on := 18, ground := Ground.phase }, { on := 19, ground := Ground.phase }, { on := 20, ground := Ground.phase }, { on := 21, ground := Ground.phase }, { on := 22, ground := Ground.phase }, { on := 23, ground := Ground.phase }, { on := 24, ground := Ground.phase }], guard := none }) (v := .pointer (some ⟨gB, i, none⟩)) rfl (by kernel_rfl) (by kernel_rfl) (by kernel_rfl) (fun _ _ _ h => hp _ _ _ _ h) (.inl ⟨by kernel_rfl, fun V hV => ?_⟩) hS ?_
    · have s0 := hV
      try obtain ⟨s1, s2⟩ := s0
      go_split_ands
      go_simp
      all_goals (first | assumption | skip)
    simp only [Act.put, List.setIfInBounds_toArray, List.set_cons_zero, List.set_cons_succ]
    refine wpAnyH_ready (rs := [26]) (by kernel_rfl) (by simp) ?_
    refine (AllReadyH.cons (o := { dst := none, op := Op.store 36 (Operand.tmp 173) (Operand.tmp 172), type := 0, pos := "top01.go:146", after := #[{ on := 25, ground := Ground.data }, { on := 24, ground := Ground.data }, { on := 0, ground := Ground.phase }, { on := 1, ground := Ground.phase }, { on := 2, ground := Ground.phase }, { on := 3, ground := Ground.phase }, { on := 4, ground := Ground.phase }, { on := 5, ground := Ground.phase }, { on := 6, ground := Ground.phase }, { on := 7, ground := Ground.phase }, { on := 8, ground := Ground.phase }, { on := 9, ground := Ground.phase }, { on := 10, ground := Ground.phase }, { on := 11, ground := Ground.phase }, { on := 12, ground := Ground.phase }, { on := 13, ground := Ground.phase }, { on := 14, ground := Ground.phase }, { on := 15, ground := Ground.phase }, { on := 16, ground := Ground.phase }, { on := 17, ground := Ground.phase }, { on := 18, ground := Ground.phase }, { on := 19, ground := Ground.phase }, { on := 20, ground := Ground.phase }, { on := 21, ground := Ground.phase }, { on := 22, ground := Ground.phase }, { on := 23, ground := Ground.phase }, { on := 24, ground := Ground.phase }], guard := none }) rfl (fun K hK => ?_) AllReadyH.nil)
    go_simp
    refine hK.out _ _ (hcx _) (fun _ => ?_)
    clear hK K
    try simp only [Act.put, List.setIfInBounds_toArray, List.set_cons_zero, List.set_cons_succ]
    exact wpAnyH_done (Q := calmD Q) (by kernel_rfl) h _

def regP25NOps : Array Oper := #[{ dst := some 148, op := Op.move (Operand.tmp 0), type := 30, pos := "top01.go:146", after := #[], guard := none },
  { dst := some 149, op := Op.nilCheck (Operand.tmp 148), type := 0, pos := "top01.go:146", after := #[{ on := 0, ground := Ground.data }], guard := none },
  { dst := some 150, op := Op.fieldAddr 35 (Operand.tmp 149) 1, type := 0, pos := "top01.go:146", after := #[{ on := 1, ground := Ground.data }], guard := none },
  { dst := some 151, op := Op.load 32 (Operand.tmp 150), type := 32, pos := "top01.go:146", after := #[{ on := 2, ground := Ground.data }], guard := none },
  { dst := some 152, op := Op.move (Operand.tmp 8), type := 3, pos := "top01.go:146", after := #[], guard := none },
  { dst := some 153, op := Op.move (Operand.tmp 0), type := 30, pos := "top01.go:146", after := #[], guard := none },
  { dst := some 154, op := Op.nilCheck (Operand.tmp 153), type := 0, pos := "top01.go:146", after := #[{ on := 5, ground := Ground.data }], guard := none },
  { dst := some 155, op := Op.fieldAddr 35 (Operand.tmp 154) 1, type := 0, pos := "top01.go:146", after := #[{ on := 6, ground := Ground.data }], guard := none },
  { dst := some 156, op := Op.load 32 (Operand.tmp 155), type := 32, pos := "top01.go:146", after := #[{ on := 7, ground := Ground.data }], guard := none },
  { dst := some 157, op := Op.move (Operand.tmp 8), type := 3, pos := "top01.go:146", after := #[], guard := none },
  { dst := some 158, op := Op.indexAddr 32 (Operand.tmp 156) (Operand.tmp 157), type := 0, pos := "top01.go:146", after := #[{ on := 8, ground := Ground.data }, { on := 9, ground := Ground.data }], guard := none },
  { dst := some 159, op := Op.load 36 (Operand.tmp 158), type := 36, pos := "top01.go:146", after := #[{ on := 10, ground := Ground.data }], guard := none },
  { dst := some 160, op := Op.fieldAddr 38 (Operand.tmp 3) 1, type := 0, pos := "top01.go:146", after := #[], guard := none },
  { dst := some 161, op := Op.load 3 (Operand.tmp 160), type := 3, pos := "top01.go:146", after := #[{ on := 12, ground := Ground.data }], guard := none },
  { dst := some 162, op := Op.call { callee := Callee.builtin Builtin.max, args := #[Operand.tmp 161, Operand.const (Value.int IntKind.i64 0)], argTypes := #[3, 3] }, type := 3, pos := "top01.go:146", after := #[{ on := 13, ground := Ground.data }], guard := none },
  { dst := some 163, op := Op.move (Operand.tmp 0), type := 30, pos := "top01.go:146", after := #[], guard := none },
  { dst := some 164, op := Op.nilCheck (Operand.tmp 163), type := 0, pos := "top01.go:146", after := #[{ on := 15, ground := Ground.data }], guard := none },
  { dst := some 165, op := Op.fieldAddr 35 (Operand.tmp 164) 1, type := 0, pos := "top01.go:146", after := #[{ on := 16, ground := Ground.data }], guard := none },
  { dst := some 166, op := Op.load 32 (Operand.tmp 165), type := 32, pos := "top01.go:146", after := #[{ on := 17, ground := Ground.data }], guard := none },
  { dst := some 167, op := Op.move (Operand.tmp 8), type := 3, pos := "top01.go:146", after := #[], guard := none },
  { dst := some 168, op := Op.indexAddr 32 (Operand.tmp 166) (Operand.tmp 167), type := 0, pos := "top01.go:146", after := #[{ on := 18, ground := Ground.data }, { on := 19, ground := Ground.data }], guard := none },
  { dst := some 169, op := Op.load 36 (Operand.tmp 168), type := 36, pos := "top01.go:146", after := #[{ on := 20, ground := Ground.data }], guard := none },
  { dst := some 170, op := Op.call { callee := Callee.builtin Builtin.len, args := #[Operand.tmp 169], argTypes := #[36] }, type := 3, pos := "top01.go:146", after := #[{ on := 21, ground := Ground.data }], guard := none },
  { dst := some 171, op := Op.call { callee := Callee.builtin Builtin.min, args := #[Operand.tmp 162, Operand.tmp 170], argTypes := #[3, 3] }, type := 3, pos := "top01.go:146", after := #[{ on := 14, ground := Ground.data }, { on := 22, ground := Ground.data }], guard := none },
  { dst := some 172, op := Op.slice 36 (Operand.tmp 159) none (some (Operand.tmp 171)) none, type := 36, pos := "top01.go:146", after := #[{ on := 11, ground := Ground.data }, { on := 23, ground := Ground.data }], guard := none },
  { dst := some 173, op := Op.indexAddr 32 (Operand.tmp 151) (Operand.tmp 152), type := 0, pos := "top01.go:146", after := #[{ on := 3, ground := Ground.data }, { on := 4, ground := Ground.data }, { on := 0, ground := Ground.phase }, { on := 1, ground := Ground.phase }, { on := 2, ground := Ground.phase }, { on := 3, ground := Ground.phase }, { on := 4, ground := Ground.phase }, { on := 5, ground := Ground.phase }, { on := 6, ground := Ground.phase }, { on := 7, ground := Ground.phase }, { on := 8, ground := Ground.phase }, { on := 9, ground := Ground.phase }, { on := 10, ground := Ground.phase }, { on := 11, ground := Ground.phase }, { on := 12, ground := Ground.phase }, { on := 13, ground := Ground.phase }, { on := 14, ground := Ground.phase }, { on := 15, ground := Ground.phase }, { on := 16, ground := Ground.phase }, { on := 17, ground := Ground.phase }, { on := 18, ground := Ground.phase }, { on := 19, ground := Ground.phase }, { on := 20, ground := Ground.phase }, { on := 21, ground := Ground.phase }, { on := 22, ground := Ground.phase }, { on := 23, ground := Ground.phase }, { on := 24, ground := Ground.phase }], guard := none },
  { dst := none, op := Op.store 36 (Operand.tmp 173) (Operand.tmp 172), type := 0, pos := "top01.go:146", after := #[{ on := 25, ground := Ground.data }, { on := 24, ground := Ground.data }, { on := 0, ground := Ground.phase }, { on := 1, ground := Ground.phase }, { on := 2, ground := Ground.phase }, { on := 3, ground := Ground.phase }, { on := 4, ground := Ground.phase }, { on := 5, ground := Ground.phase }, { on := 6, ground := Ground.phase }, { on := 7, ground := Ground.phase }, { on := 8, ground := Ground.phase }, { on := 9, ground := Ground.phase }, { on := 10, ground := Ground.phase }, { on := 11, ground := Ground.phase }, { on := 12, ground := Ground.phase }, { on := 13, ground := Ground.phase }, { on := 14, ground := Ground.phase }, { on := 15, ground := Ground.phase }, { on := 16, ground := Ground.phase }, { on := 17, ground := Ground.phase }, { on := 18, ground := Ground.phase }, { on := 19, ground := Ground.phase }, { on := 20, ground := Ground.phase }, { on := 21, ground := Ground.phase }, { on := 22, ground := Ground.phase }, { on := 23, ground := Ground.phase }, { on := 24, ground := Ground.phase }], guard := none }]
set_option maxRecDepth 100000 in
set_option maxHeartbeats 4000000 in
theorem regP25N (Q : Exit → Act → World → Prop) (Tb x gB nf cf i : Nat) (N M : Int) {t1 t2 t4 t5 t6 t7 t9 t10 t11 t12 t13 t14 t15 t16 t17 t18 t19 t20 t21 t22 t23 t24 t25 t26 t27 t28 t29 t30 t31 t32 t33 t34 t35 t36 t37 t38 t39 t40 t41 t42 t43 t44 t45 t46 t47 t48 t49 t50 t51 t52 t53 t54 t55 t56 t57 t58 t59 t60 t61 t62 t63 t64 t65 t66 t67 t68 t69 t70 t71 t72 t73 t74 t75 t76 t77 t78 t79 t80 t81 t82 t83 t84 t85 t86 t87 t88 t89 t90 t91 t92 t93 t94 t95 t96 t97 t98 t99 t100 t101 t102 t103 t104 t105 t106 t107 t108 t109 t110 t111 t112 t113 t114 t115 t116 t117 t118 t119 t120 t121 t122 t123 t124 t125 t126 t127 t128 t129 t130 t131 t132 t133 t134 t135 t136 t137 t138 t139 t140 t141 t142 t143 t144 t145 t146 t147 t148 t149 t150 t151 t152 t153 t154 t155 t156 t157 t158 t159 t160 t161 t162 t163 t164 t165 t166 t167 t168 t169 t170 t171 t172 t173 t174 t175 t176 t177 t178 t179 t180 t181 t182 t183 t184 t185 t186 t187 t188 : Value} (W : World)
    (hin : (i : Int) < (nf : Int)) (hM : (if N < 0 then 0 else N) = M) (hm : M ≤ 0 → M = 0) (hB : W.drew.cell? ⟨gB, i, none⟩ = some (.slice none 0 0)) (hz : W.drew.frozen? ⟨gB, i, none⟩ = false) (hS : W.drew.cell? ⟨x, 1, none⟩ = some (.slice (some ⟨gB, 0, none⟩) nf cf) ∧ W.drew.cell? ⟨Tb, 1, none⟩ = some (.int .i64 N)) (hcx : ∀ y, (W.drew.setCell ⟨gB, i, none⟩ y).cell? ⟨x, 1, none⟩ = some (.slice (some ⟨gB, 0, none⟩) nf cf) ∧ (W.drew.setCell ⟨gB, i, none⟩ y).cell? ⟨Tb, 1, none⟩ = some (.int .i64 N))
    (h : Q .normal { tmps := (.pointer (some ⟨x, 0, none⟩) :: t1 :: t2 :: .pointer (some ⟨Tb, 0, none⟩) :: t4 :: t5 :: t6 :: t7 :: .int .i64 (i : Int) :: t9 :: t10 :: t11 :: t12 :: t13 :: t14 :: t15 :: t16 :: t17 :: t18 :: t19 :: t20 :: t21 :: t22 :: t23 :: t24 :: t25 :: t26 :: t27 :: t28 :: t29 :: t30 :: t31 :: t32 :: t33 :: t34 :: t35 :: t36 :: t37 :: t38 :: t39 :: t40 :: t41 :: t42 :: t43 :: t44 :: t45 :: t46 :: t47 :: t48 :: t49 :: t50 :: t51 :: t52 :: t53 :: t54 :: t55 :: t56 :: t57 :: t58 :: t59 :: t60 :: t61 :: t62 :: t63 :: t64 :: t65 :: t66 :: t67 :: t68 :: t69 :: t70 :: t71 :: t72 :: t73 :: t74 :: t75 :: t76 :: t77 :: t78 :: t79 :: t80 :: t81 :: t82 :: t83 :: t84 :: t85 :: t86 :: t87 :: t88 :: t89 :: t90 :: t91 :: t92 :: t93 :: t94 :: t95 :: t96 :: t97 :: t98 :: t99 :: t100 :: t101 :: t102 :: t103 :: t104 :: t105 :: t106 :: t107 :: t108 :: t109 :: t110 :: t111 :: t112 :: t113 :: t114 :: t115 :: t116 :: t117 :: t118 :: t119 :: t120 :: t121 :: t122 :: t123 :: t124 :: t125 :: t126 :: t127 :: t128 :: t129 :: t130 :: t131 :: t132 :: t133 :: t134 :: t135 :: t136 :: t137 :: t138 :: t139 :: t140 :: t141 :: t142 :: t143 :: t144 :: t145 :: t146 :: t147 :: .pointer (some ⟨x, 0, none⟩) :: .pointer (some ⟨x, 0, none⟩) :: .pointer (some ⟨x, 1, none⟩) :: .slice (some ⟨gB, 0, none⟩) nf cf :: .int .i64 (i : Int) :: .pointer (some ⟨x, 0, none⟩) :: .pointer (some ⟨x, 0, none⟩) :: .pointer (some ⟨x, 1, none⟩) :: .slice (some ⟨gB, 0, none⟩) nf cf :: .int .i64 (i : Int) :: .pointer (some ⟨gB, i, none⟩) :: .slice none 0 0 :: .pointer (some ⟨Tb, 1, none⟩) :: .int .i64 N :: .int .i64 M :: .pointer (some ⟨x, 0, none⟩) :: .pointer (some ⟨x, 0, none⟩) :: .pointer (some ⟨x, 1, none⟩) :: .slice (some ⟨gB, 0, none⟩) nf cf :: .int .i64 (i : Int) :: .pointer (some ⟨gB, i, none⟩) :: .slice none 0 0 :: .int .i64 0 :: .int .i64 0 :: .slice none 0 0 :: .pointer (some ⟨gB, i, none⟩) :: t174 :: t175 :: t176 :: t177 :: t178 :: t179 :: t180 :: t181 :: t182 :: t183 :: t184 :: t185 :: t186 :: t187 :: t188 :: []).toArray, defers := [] } (W.drew.setCell ⟨gB, i, none⟩ (.slice none 0 0))) :
    (Code.region 25 regP25NOps true).wp Tryd.prog Q { tmps := (.pointer (some ⟨x, 0, none⟩) :: t1 :: t2 :: .pointer (some ⟨Tb, 0, none⟩) :: t4 :: t5 :: t6 :: t7 :: .int .i64 (i : Int) :: t9 :: t10 :: t11 :: t12 :: t13 :: t14 :: t15 :: t16 :: t17 :: t18 :: t19 :: t20 :: t21 :: t22 :: t23 :: t24 :: t25 :: t26 :: t27 :: t28 :: t29 :: t30 :: t31 :: t32 :: t33 :: t34 :: t35 :: t36 :: t37 :: t38 :: t39 :: t40 :: t41 :: t42 :: t43 :: t44 :: t45 :: t46 :: t47 :: t48 :: t49 :: t50 :: t51 :: t52 :: t53 :: t54 :: t55 :: t56 :: t57 :: t58 :: t59 :: t60 :: t61 :: t62 :: t63 :: t64 :: t65 :: t66 :: t67 :: t68 :: t69 :: t70 :: t71 :: t72 :: t73 :: t74 :: t75 :: t76 :: t77 :: t78 :: t79 :: t80 :: t81 :: t82 :: t83 :: t84 :: t85 :: t86 :: t87 :: t88 :: t89 :: t90 :: t91 :: t92 :: t93 :: t94 :: t95 :: t96 :: t97 :: t98 :: t99 :: t100 :: t101 :: t102 :: t103 :: t104 :: t105 :: t106 :: t107 :: t108 :: t109 :: t110 :: t111 :: t112 :: t113 :: t114 :: t115 :: t116 :: t117 :: t118 :: t119 :: t120 :: t121 :: t122 :: t123 :: t124 :: t125 :: t126 :: t127 :: t128 :: t129 :: t130 :: t131 :: t132 :: t133 :: t134 :: t135 :: t136 :: t137 :: t138 :: t139 :: t140 :: t141 :: t142 :: t143 :: t144 :: t145 :: t146 :: t147 :: t148 :: t149 :: t150 :: t151 :: t152 :: t153 :: t154 :: t155 :: t156 :: t157 :: t158 :: t159 :: t160 :: t161 :: t162 :: t163 :: t164 :: t165 :: t166 :: t167 :: t168 :: t169 :: t170 :: t171 :: t172 :: t173 :: t174 :: t175 :: t176 :: t177 :: t178 :: t179 :: t180 :: t181 :: t182 :: t183 :: t184 :: t185 :: t186 :: t187 :: t188 :: []).toArray, defers := [] } W := by
  refine Code.wp_mono (fun _ _ _ h => calmD_le h) ?_
  have hp : ∀ c a a' w, calmD Q (.panic c) a w → calmD Q (.panic c) a' w := fun _ _ _ _ h => h
  refine wp_region_held (S := fun V => V.cell? ⟨x, 1, none⟩ = some (.slice (some ⟨gB, 0, none⟩) nf cf) ∧ V.cell? ⟨Tb, 1, none⟩ = some (.int .i64 N)) (by kernel_rfl) ?_
  change wpAnyH _ _ _ _ _ _ _ _ W.drew
  have hi0 : (0 : Int) ≤ (i : Int) := by omega
  refine wpAnyH_take (i := 0) (oi := { dst := some 148, op := Op.move (Operand.tmp 0), type := 30, pos := "top01.go:146", after := #[], guard := none }) (v := .pointer (some ⟨x, 0, none⟩)) rfl (by kernel_rfl) (by kernel_rfl) (by kernel_rfl) (fun _ _ _ h => hp _ _ _ _ h) (.inl ⟨by kernel_rfl, fun V hV => ?_⟩) hS ?_
  · have s0 := hV
    try obtain ⟨s1, s2⟩ := s0
    go_split_ands
    go_simp
    all_goals (first | assumption | skip)
  simp only [Act.put, List.setIfInBounds_toArray, List.set_cons_zero, List.set_cons_succ]
  refine wpAnyH_take (i := 1) (oi := { dst := some 149, op := Op.nilCheck (Operand.tmp 148), type := 0, pos := "top01.go:146", after := #[{ on := 0, ground := Ground.data }], guard := none }) (v := .pointer (some ⟨x, 0, none⟩)) rfl (by kernel_rfl) (by kernel_rfl) (by kernel_rfl) (fun _ _ _ h => hp _ _ _ _ h) (.inl ⟨by kernel_rfl, fun V hV => ?_⟩) hS ?_
  · have s0 := hV
    try obtain ⟨s1, s2⟩ := s0
    go_split_ands
    go_simp
    all_goals (first | assumption | skip)
  simp only [Act.put, List.setIfInBounds_toArray, List.set_cons_zero, List.set_cons_succ]
  refine wpAnyH_take (i := 2) (oi := { dst := some 150, op := Op.fieldAddr 35 (Operand.tmp 149) 1, type := 0, pos := "top01.go:146", after := #[{ on := 1, ground := Ground.data }], guard := none }) (v := .pointer (some ⟨x, 1, none⟩)) rfl (by kernel_rfl) (by kernel_rfl) (by kernel_rfl) (fun _ _ _ h => hp _ _ _ _ h) (.inl ⟨by kernel_rfl, fun V hV => ?_⟩) hS ?_
  · have s0 := hV
    try obtain ⟨s1, s2⟩ := s0
    go_split_ands
    go_simp
    all_goals (first | assumption | skip)
  simp only [Act.put, List.setIfInBounds_toArray, List.set_cons_zero, List.set_cons_succ]
  refine wpAnyH_take (i := 3) (oi := { dst := some 151, op := Op.load 32 (Operand.tmp 150), type := 32, pos := "top01.go:146", after := #[{ on := 2, ground := Ground.data }], guard := none }) (v := .slice (some ⟨gB, 0, none⟩) nf cf) rfl (by kernel_rfl) (by kernel_rfl) (by kernel_rfl) (fun _ _ _ h => hp _ _ _ _ h) (.inl ⟨by kernel_rfl, fun V hV => ?_⟩) hS ?_
  · have s0 := hV
    try obtain ⟨s1, s2⟩ := s0
    go_split_ands
    go_simp
    all_goals (first | assumption | skip)
  simp only [Act.put, List.setIfInBounds_toArray, List.set_cons_zero, List.set_cons_succ]
  refine wpAnyH_take (i := 4) (oi := { dst := some 152, op := Op.move (Operand.tmp 8), type := 3, pos := "top01.go:146", after := #[], guard := none }) (v := .int .i64 (i : Int)) rfl (by kernel_rfl) (by kernel_rfl) (by kernel_rfl) (fun _ _ _ h => hp _ _ _ _ h) (.inl ⟨by kernel_rfl, fun V hV => ?_⟩) hS ?_
  · have s0 := hV
    try obtain ⟨s1, s2⟩ := s0
    go_split_ands
    go_simp
    all_goals (first | assumption | skip)
  simp only [Act.put, List.setIfInBounds_toArray, List.set_cons_zero, List.set_cons_succ]
  refine wpAnyH_take (i := 5) (oi := { dst := some 153, op := Op.move (Operand.tmp 0), type := 30, pos := "top01.go:146", after := #[], guard := none }) (v := .pointer (some ⟨x, 0, none⟩)) rfl (by kernel_rfl) (by kernel_rfl) (by kernel_rfl) (fun _ _ _ h => hp _ _ _ _ h) (.inl ⟨by kernel_rfl, fun V hV => ?_⟩) hS ?_
  · have s0 := hV
    try obtain ⟨s1, s2⟩ := s0
    go_split_ands
    go_simp
    all_goals (first | assumption | skip)
  simp only [Act.put, List.setIfInBounds_toArray, List.set_cons_zero, List.set_cons_succ]
  refine wpAnyH_take (i := 6) (oi := { dst := some 154, op := Op.nilCheck (Operand.tmp 153), type := 0, pos := "top01.go:146", after := #[{ on := 5, ground := Ground.data }], guard := none }) (v := .pointer (some ⟨x, 0, none⟩)) rfl (by kernel_rfl) (by kernel_rfl) (by kernel_rfl) (fun _ _ _ h => hp _ _ _ _ h) (.inl ⟨by kernel_rfl, fun V hV => ?_⟩) hS ?_
  · have s0 := hV
    try obtain ⟨s1, s2⟩ := s0
    go_split_ands
    go_simp
    all_goals (first | assumption | skip)
  simp only [Act.put, List.setIfInBounds_toArray, List.set_cons_zero, List.set_cons_succ]
  refine wpAnyH_take (i := 7) (oi := { dst := some 155, op := Op.fieldAddr 35 (Operand.tmp 154) 1, type := 0, pos := "top01.go:146", after := #[{ on := 6, ground := Ground.data }], guard := none }) (v := .pointer (some ⟨x, 1, none⟩)) rfl (by kernel_rfl) (by kernel_rfl) (by kernel_rfl) (fun _ _ _ h => hp _ _ _ _ h) (.inl ⟨by kernel_rfl, fun V hV => ?_⟩) hS ?_
  · have s0 := hV
    try obtain ⟨s1, s2⟩ := s0
    go_split_ands
    go_simp
    all_goals (first | assumption | skip)
  simp only [Act.put, List.setIfInBounds_toArray, List.set_cons_zero, List.set_cons_succ]
  refine wpAnyH_take (i := 8) (oi := { dst := some 156, op := Op.load 32 (Operand.tmp 155), type := 32, pos := "top01.go:146", after := #[{ on := 7, ground := Ground.data }], guard := none }) (v := .slice (some ⟨gB, 0, none⟩) nf cf) rfl (by kernel_rfl) (by kernel_rfl) (by kernel_rfl) (fun _ _ _ h => hp _ _ _ _ h) (.inl ⟨by kernel_rfl, fun V hV => ?_⟩) hS ?_
  · have s0 := hV
    try obtain ⟨s1, s2⟩ := s0
    go_split_ands
    go_simp
    all_goals (first | assumption | skip)
  simp only [Act.put, List.setIfInBounds_toArray, List.set_cons_zero, List.set_cons_succ]
  refine wpAnyH_take (i := 9) (oi := { dst := some 157, op := Op.move (Operand.tmp 8), type := 3, pos := "top01.go:146", after := #[], guard := none }) (v := .int .i64 (i : Int)) rfl (by kernel_rfl) (by kernel_rfl) (by kernel_rfl) (fun _ _ _ h => hp _ _ _ _ h) (.inl ⟨by kernel_rfl, fun V hV => ?_⟩) hS ?_
  · have s0 := hV
    try obtain ⟨s1, s2⟩ := s0
    go_split_ands
    go_simp
    all_goals (first | assumption | skip)
  simp only [Act.put, List.setIfInBounds_toArray, List.set_cons_zero, List.set_cons_succ]
  refine wpAnyH_take (i := 10) (oi := { dst := some 158, op := Op.indexAddr 32 (Operand.tmp 156) (Operand.tmp 157), type := 0, pos := "top01.go:146", after := #[{ on := 8, ground := Ground.data }, { on := 9, ground := Ground.data }], guard := none }) (v := .pointer (some ⟨gB, i, none⟩)) rfl (by kernel_rfl) (by kernel_rfl) (by kernel_rfl) (fun _ _ _ h => hp _ _ _ _ h) (.inl ⟨by kernel_rfl, fun V hV => ?_⟩) hS ?_
  · have s0 := hV
    try obtain ⟨s1, s2⟩ := s0
    go_split_ands
    go_simp
    all_goals (first | assumption | skip)
  simp only [Act.put, List.setIfInBounds_toArray, List.set_cons_zero, List.set_cons_succ]
  refine wpAnyH_take (i := 12) (oi := { dst := some 160, op := Op.fieldAddr 38 (Operand.tmp 3) 1, type := 0, pos := "top01.go:146", after := #[], guard := none }) (v := .pointer (some ⟨Tb, 1, none⟩)) rfl (by kernel_rfl) (by kernel_rfl) (by kernel_rfl) (fun _ _ _ h => hp _ _ _ _ h) (.inl ⟨by kernel_rfl, fun V hV => ?_⟩) hS ?_
  · have s0 := hV
    try obtain ⟨s1, s2⟩ := s0
    go_split_ands
    go_simp
    all_goals (first | assumption | skip)
  simp only [Act.put, List.setIfInBounds_toArray, List.set_cons_zero, List.set_cons_succ]
  refine wpAnyH_take (i := 13) (oi := { dst := some 161, op := Op.load 3 (Operand.tmp 160), type := 3, pos := "top01.go:146", after := #[{ on := 12, ground := Ground.data }], guard := none }) (v := .int .i64 N) rfl (by kernel_rfl) (by kernel_rfl) (by kernel_rfl) (fun _ _ _ h => hp _ _ _ _ h) (.inl ⟨by kernel_rfl, fun V hV => ?_⟩) hS ?_
  · have s0 := hV
    try obtain ⟨s1, s2⟩ := s0
    go_split_ands
    go_simp
    all_goals (first | assumption | skip)
  simp only [Act.put, List.setIfInBounds_toArray, List.set_cons_zero, List.set_cons_succ]
  refine wpAnyH_take (i := 14) (oi := { dst := some 162, op := Op.call { callee := Callee.builtin Builtin.max, args := #[Operand.tmp 161, Operand.const (Value.int IntKind.i64 0)], argTypes := #[3, 3] }, type := 3, pos := "top01.go:146", after := #[{ on := 13, ground := Ground.data }], guard := none }) (v := .int .i64 M) rfl (by kernel_rfl) (by kernel_rfl) (by kernel_rfl) (fun _ _ _ h => hp _ _ _ _ h) (.inl ⟨by kernel_rfl, fun V hV => ?_⟩) hS ?_
  · have s0 := hV
    try obtain ⟨s1, s2⟩ := s0
    go_split_ands
    go_simp
    all_goals (first | assumption | skip)
  simp only [Act.put, List.setIfInBounds_toArray, List.set_cons_zero, List.set_cons_succ]
  refine wpAnyH_take (i := 15) (oi := { dst := some 163, op := Op.move (Operand.tmp 0), type := 30, pos := "top01.go:146", after := #[], guard := none }) (v := .pointer (some ⟨x, 0, none⟩)) rfl (by kernel_rfl) (by kernel_rfl) (by kernel_rfl) (fun _ _ _ h => hp _ _ _ _ h) (.inl ⟨by kernel_rfl, fun V hV => ?_⟩) hS ?_
  · have s0 := hV
    try obtain ⟨s1, s2⟩ := s0
    go_split_ands
    go_simp
    all_goals (first | assumption | skip)
  simp only [Act.put, List.setIfInBounds_toArray, List.set_cons_zero, List.set_cons_succ]
  refine wpAnyH_take (i := 16) (oi := { dst := some 164, op := Op.nilCheck (Operand.tmp 163), type := 0, pos := "top01.go:146", after := #[{ on := 15, ground := Ground.data }], guard := none }) (v := .pointer (some ⟨x, 0, none⟩)) rfl (by kernel_rfl) (by kernel_rfl) (by kernel_rfl) (fun _ _ _ h => hp _ _ _ _ h) (.inl ⟨by kernel_rfl, fun V hV => ?_⟩) hS ?_
  · have s0 := hV
    try obtain ⟨s1, s2⟩ := s0
    go_split_ands
    go_simp
    all_goals (first | assumption | skip)
  simp only [Act.put, List.setIfInBounds_toArray, List.set_cons_zero, List.set_cons_succ]
  refine wpAnyH_take (i := 17) (oi := { dst := some 165, op := Op.fieldAddr 35 (Operand.tmp 164) 1, type := 0, pos := "top01.go:146", after := #[{ on := 16, ground := Ground.data }], guard := none }) (v := .pointer (some ⟨x, 1, none⟩)) rfl (by kernel_rfl) (by kernel_rfl) (by kernel_rfl) (fun _ _ _ h => hp _ _ _ _ h) (.inl ⟨by kernel_rfl, fun V hV => ?_⟩) hS ?_
  · have s0 := hV
    try obtain ⟨s1, s2⟩ := s0
    go_split_ands
    go_simp
    all_goals (first | assumption | skip)
  simp only [Act.put, List.setIfInBounds_toArray, List.set_cons_zero, List.set_cons_succ]
  refine wpAnyH_take (i := 18) (oi := { dst := some 166, op := Op.load 32 (Operand.tmp 165), type := 32, pos := "top01.go:146", after := #[{ on := 17, ground := Ground.data }], guard := none }) (v := .slice (some ⟨gB, 0, none⟩) nf cf) rfl (by kernel_rfl) (by kernel_rfl) (by kernel_rfl) (fun _ _ _ h => hp _ _ _ _ h) (.inl ⟨by kernel_rfl, fun V hV => ?_⟩) hS ?_
  · have s0 := hV
    try obtain ⟨s1, s2⟩ := s0
    go_split_ands
    go_simp
    all_goals (first | assumption | skip)
  simp only [Act.put, List.setIfInBounds_toArray, List.set_cons_zero, List.set_cons_succ]
  refine wpAnyH_take (i := 19) (oi := { dst := some 167, op := Op.move (Operand.tmp 8), type := 3, pos := "top01.go:146", after := #[], guard := none }) (v := .int .i64 (i : Int)) rfl (by kernel_rfl) (by kernel_rfl) (by kernel_rfl) (fun _ _ _ h => hp _ _ _ _ h) (.inl ⟨by kernel_rfl, fun V hV => ?_⟩) hS ?_
  · have s0 := hV
    try obtain ⟨s1, s2⟩ := s0
    go_split_ands
    go_simp
    all_goals (first | assumption | skip)
  simp only [Act.put, List.setIfInBounds_toArray, List.set_cons_zero, List.set_cons_succ]
  refine wpAnyH_take (i := 20) (oi := { dst := some 168, op := Op.indexAddr 32 (Operand.tmp 166) (Operand.tmp 167), type := 0, pos := "top01.go:146", after := #[{ on := 18, ground := Ground.data }, { on := 19, ground := Ground.data }], guard := none }) (v := .pointer (some ⟨gB, i, none⟩)) rfl (by kernel_rfl) (by kernel_rfl) (by kernel_rfl) (fun _ _ _ h => hp _ _ _ _ h) (.inl ⟨by kernel_rfl, fun V hV => ?_⟩) hS ?_
  · have s0 := hV
    try obtain ⟨s1, s2⟩ := s0
    go_split_ands
    go_simp
    all_goals (first | assumption | skip)
  simp only [Act.put, List.setIfInBounds_toArray, List.set_cons_zero, List.set_cons_succ]
  refine wpAnyH_ready (rs := [11, 21]) (by kernel_rfl) (by simp) ?_
  refine (AllReadyH.cons (o := { dst := some 159, op := Op.load 36 (Operand.tmp 158), type := 36, pos := "top01.go:146", after := #[{ on := 10, ground := Ground.data }], guard := none }) rfl (fun K hK => ?_) (AllReadyH.cons (o := { dst := some 169, op := Op.load 36 (Operand.tmp 168), type := 36, pos := "top01.go:146", after := #[{ on := 20, ground := Ground.data }], guard := none }) rfl (fun K hK => ?_) AllReadyH.nil))
  · go_simp
    refine hK.out _ _ hS (fun _ => ?_)
    clear hK K
    try simp only [Act.put, List.setIfInBounds_toArray, List.set_cons_zero, List.set_cons_succ]
    refine wpAnyH_ready (rs := [21]) (by kernel_rfl) (by simp) ?_
    refine (AllReadyH.cons (o := { dst := some 169, op := Op.load 36 (Operand.tmp 168), type := 36, pos := "top01.go:146", after := #[{ on := 20, ground := Ground.data }], guard := none }) rfl (fun K hK => ?_) AllReadyH.nil)
    go_simp
    refine hK.out _ _ hS (fun _ => ?_)
    clear hK K
    try simp only [Act.put, List.setIfInBounds_toArray, List.set_cons_zero, List.set_cons_succ]
    refine wpAnyH_take (i := 22) (oi := { dst := some 170, op := Op.call { callee := Callee.builtin Builtin.len, args := #[Operand.tmp 169], argTypes := #[36] }, type := 3, pos := "top01.go:146", after := #[{ on := 21, ground := Ground.data }], guard := none }) (v := .int .i64 0) rfl (by kernel_rfl) (by kernel_rfl) (by kernel_rfl) (fun _ _ _ h => hp _ _ _ _ h) (.inl ⟨by kernel_rfl, fun V hV => ?_⟩) hS ?_
    · have s0 := hV
      try obtain ⟨s1, s2⟩ := s0
      go_split_ands
      go_simp
      all_goals (first | assumption | skip)
    simp only [Act.put, List.setIfInBounds_toArray, List.set_cons_zero, List.set_cons_succ]
    refine wpAnyH_take (i := 23) (oi := { dst := some 171, op := Op.call { callee := Callee.builtin Builtin.min, args := #[Operand.tmp 162, Operand.tmp 170], argTypes := #[3, 3] }, type := 3, pos := "top01.go:146", after := #[{ on := 14, ground := Ground.data }, { on := 22, ground := Ground.data }], guard := none }) (v := .int .i64 0) rfl (by kernel_rfl) (by kernel_rfl) (by kernel_rfl) (fun _ _ _ h => hp _ _ _ _ h) (.inl ⟨by kernel_rfl, fun V hV => ?_⟩) hS ?_
    · have s0 := hV
      try obtain ⟨s1, s2⟩ := s0
      go_split_ands
      go_simp
      all_goals (first | assumption | skip)
    simp only [Act.put, List.setIfInBounds_toArray, List.set_cons_zero, List.set_cons_succ]
    refine wpAnyH_take (i := 24) (oi := { dst := some 172, op := Op.slice 36 (Operand.tmp 159) none (some (Operand.tmp 171)) none, type := 36, pos := "top01.go:146", after := #[{ on := 11, ground := Ground.data }, { on := 23, ground := Ground.data }], guard := none }) (v := .slice none 0 0) rfl (by kernel_rfl) (by kernel_rfl) (by kernel_rfl) (fun _ _ _ h => hp _ _ _ _ h) (.inl ⟨by kernel_rfl, fun V hV => ?_⟩) hS ?_
    · have s0 := hV
      try obtain ⟨s1, s2⟩ := s0
      go_split_ands
      go_simp
      all_goals (first | assumption | skip)
    simp only [Act.put, List.setIfInBounds_toArray, List.set_cons_zero, List.set_cons_succ]
    refine wpAnyH_take (i := 25) (oi := { dst := some 173, op := Op.indexAddr 32 (Operand.tmp 151) (Operand.tmp 152), type := 0, pos := "top01.go:146", after := #[{ on := 3, ground := Ground.data }, { on := 4, ground := Ground.data }, { on := 0, ground := Ground.phase }, { on := 1, ground := Ground.phase }, { on := 2, ground := Ground.phase }, { on := 3, ground := Ground.phase }, { on := 4, ground := Ground.phase }, { on := 5, ground := Ground.phase }, { on := 6, ground := Ground.phase }, { on := 7, ground := Ground.phase }, { on := 8, ground := Ground.phase }, { on := 9, ground := Ground.phase }, { on := 10, ground := Ground.phase }, { on := 11, ground := Ground.phase }, { on := 12, ground := Ground.phase }, { on := 13, ground := Ground.phase }, { on := 14, ground := Ground.phase }, { on := 15, ground := Ground.phase }, { on := 16, ground := Ground.phase }, { on := 17, ground := Ground.phase }, { on := 18, ground := Ground.phase }, { on := 19, ground := Ground.phase }, { on := 20, ground := Ground.phase }, { on := 21, ground := Ground.phase }, { on := 22, ground := Ground.phase }, { on := 23, ground := Ground.phase }, { on := 24, ground := Ground.phase }], guard := none }) (v := .pointer (some ⟨gB, i, none⟩)) rfl (by kernel_rfl) (by kernel_rfl) (by kernel_rfl) (fun _ _ _ h => hp _ _ _ _ h) (.inl ⟨by kernel_rfl, fun V hV => ?_⟩) hS ?_
    · have s0 := hV
      try obtain ⟨s1, s2⟩ := s0
      go_split_ands
      go_simp
      all_goals (first | assumption | skip)
    simp only [Act.put, List.setIfInBounds_toArray, List.set_cons_zero, List.set_cons_succ]
    refine wpAnyH_ready (rs := [26]) (by kernel_rfl) (by simp) ?_
    refine (AllReadyH.cons (o := { dst := none, op := Op.store 36 (Operand.tmp 173) (Operand.tmp 172), type := 0, pos := "top01.go:146", after := #[{ on := 25, ground := Ground.data }, { on := 24, ground := Ground.data }, { on := 0, ground := Ground.phase }, { on := 1, ground := Ground.phase }, { on := 2, ground := Ground.phase }, { on := 3, ground := Ground.phase }, { on := 4, ground := Ground.phase }, { on := 5, ground := Ground.phase }, { on := 6, ground := Ground.phase }, { on := 7, ground := Ground.phase }, { on := 8, ground := Ground.phase }, { on := 9, ground := Ground.phase }, { on := 10, ground := Ground.phase }, { on := 11, ground := Ground.phase }, { on := 12, ground := Ground.phase }, { on := 13, ground := Ground.phase }, { on := 14, ground := Ground.phase }, { on := 15, ground := Ground.phase }, { on := 16, ground := Ground.phase }, { on := 17, ground := Ground.phase }, { on := 18, ground := Ground.phase }, { on := 19, ground := Ground.phase }, { on := 20, ground := Ground.phase }, { on := 21, ground := Ground.phase }, { on := 22, ground := Ground.phase }, { on := 23, ground := Ground.phase }, { on := 24, ground := Ground.phase }], guard := none }) rfl (fun K hK => ?_) AllReadyH.nil)
    go_simp
    refine hK.out _ _ (hcx _) (fun _ => ?_)
    clear hK K
    try simp only [Act.put, List.setIfInBounds_toArray, List.set_cons_zero, List.set_cons_succ]
    exact wpAnyH_done (Q := calmD Q) (by kernel_rfl) h _
  · go_simp
    refine hK.out _ _ hS (fun _ => ?_)
    clear hK K
    try simp only [Act.put, List.setIfInBounds_toArray, List.set_cons_zero, List.set_cons_succ]
    refine wpAnyH_take (i := 22) (oi := { dst := some 170, op := Op.call { callee := Callee.builtin Builtin.len, args := #[Operand.tmp 169], argTypes := #[36] }, type := 3, pos := "top01.go:146", after := #[{ on := 21, ground := Ground.data }], guard := none }) (v := .int .i64 0) rfl (by kernel_rfl) (by kernel_rfl) (by kernel_rfl) (fun _ _ _ h => hp _ _ _ _ h) (.inl ⟨by kernel_rfl, fun V hV => ?_⟩) hS ?_
    · have s0 := hV
      try obtain ⟨s1, s2⟩ := s0
      go_split_ands
      go_simp
      all_goals (first | assumption | skip)
    simp only [Act.put, List.setIfInBounds_toArray, List.set_cons_zero, List.set_cons_succ]
    refine wpAnyH_take (i := 23) (oi := { dst := some 171, op := Op.call { callee := Callee.builtin Builtin.min, args := #[Operand.tmp 162, Operand.tmp 170], argTypes := #[3, 3] }, type := 3, pos := "top01.go:146", after := #[{ on := 14, ground := Ground.data }, { on := 22, ground := Ground.data }], guard := none }) (v := .int .i64 0) rfl (by kernel_rfl) (by kernel_rfl) (by kernel_rfl) (fun _ _ _ h => hp _ _ _ _ h) (.inl ⟨by kernel_rfl, fun V hV => ?_⟩) hS ?_
    · have s0 := hV
      try obtain ⟨s1, s2⟩ := s0
      go_split_ands
      go_simp
      all_goals (first | assumption | skip)
    simp only [Act.put, List.setIfInBounds_toArray, List.set_cons_zero, List.set_cons_succ]
    refine wpAnyH_ready (rs := [11]) (by kernel_rfl) (by simp) ?_
    refine (AllReadyH.cons (o := { dst := some 159, op := Op.load 36 (Operand.tmp 158), type := 36, pos := "top01.go:146", after := #[{ on := 10, ground := Ground.data }], guard := none }) rfl (fun K hK => ?_) AllReadyH.nil)
    go_simp
    refine hK.out _ _ hS (fun _ => ?_)
    clear hK K
    try simp only [Act.put, List.setIfInBounds_toArray, List.set_cons_zero, List.set_cons_succ]
    refine wpAnyH_take (i := 24) (oi := { dst := some 172, op := Op.slice 36 (Operand.tmp 159) none (some (Operand.tmp 171)) none, type := 36, pos := "top01.go:146", after := #[{ on := 11, ground := Ground.data }, { on := 23, ground := Ground.data }], guard := none }) (v := .slice none 0 0) rfl (by kernel_rfl) (by kernel_rfl) (by kernel_rfl) (fun _ _ _ h => hp _ _ _ _ h) (.inl ⟨by kernel_rfl, fun V hV => ?_⟩) hS ?_
    · have s0 := hV
      try obtain ⟨s1, s2⟩ := s0
      go_split_ands
      go_simp
      all_goals (first | assumption | skip)
    simp only [Act.put, List.setIfInBounds_toArray, List.set_cons_zero, List.set_cons_succ]
    refine wpAnyH_take (i := 25) (oi := { dst := some 173, op := Op.indexAddr 32 (Operand.tmp 151) (Operand.tmp 152), type := 0, pos := "top01.go:146", after := #[{ on := 3, ground := Ground.data }, { on := 4, ground := Ground.data }, { on := 0, ground := Ground.phase }, { on := 1, ground := Ground.phase }, { on := 2, ground := Ground.phase }, { on := 3, ground := Ground.phase }, { on := 4, ground := Ground.phase }, { on := 5, ground := Ground.phase }, { on := 6, ground := Ground.phase }, { on := 7, ground := Ground.phase }, { on := 8, ground := Ground.phase }, { on := 9, ground := Ground.phase }, { on := 10, ground := Ground.phase }, { on := 11, ground := Ground.phase }, { on := 12, ground := Ground.phase }, { on := 13, ground := Ground.phase }, { on := 14, ground := Ground.phase }, { on := 15, ground := Ground.phase }, { on := 16, ground := Ground.phase }, { on := 17, ground := Ground.phase }, { on := 18, ground := Ground.phase }, { on := 19, ground := Ground.phase }, { on := 20, ground := Ground.phase }, { on := 21, ground := Ground.phase }, { on := 22, ground := Ground.phase }, { on := 23, ground := Ground.phase }, { on := 24, ground := Ground.phase }], guard := none }) (v := .pointer (some ⟨gB, i, none⟩)) rfl (by kernel_rfl) (by kernel_rfl) (by kernel_rfl) (fun _ _ _ h => hp _ _ _ _ h) (.inl ⟨by kernel_rfl, fun V hV => ?_⟩) hS ?_
    · have s0 := hV
      try obtain ⟨s1, s2⟩ := s0
      go_split_ands
      go_simp
      all_goals (first | assumption | skip)
    simp only [Act.put, List.setIfInBounds_toArray, List.set_cons_zero, List.set_cons_succ]
    refine wpAnyH_ready (rs := [26]) (by kernel_rfl) (by simp) ?_
    refine (AllReadyH.cons (o := { dst := none, op := Op.store 36 (Operand.tmp 173) (Operand.tmp 172), type := 0, pos := "top01.go:146", after := #[{ on := 25, ground := Ground.data }, { on := 24, ground := Ground.data }, { on := 0, ground := Ground.phase }, { on := 1, ground := Ground.phase }, { on := 2, ground := Ground.phase }, { on := 3, ground := Ground.phase }, { on := 4, ground := Ground.phase }, { on := 5, ground := Ground.phase }, { on := 6, ground := Ground.phase }, { on := 7, ground := Ground.phase }, { on := 8, ground := Ground.phase }, { on := 9, ground := Ground.phase }, { on := 10, ground := Ground.phase }, { on := 11, ground := Ground.phase }, { on := 12, ground := Ground.phase }, { on := 13, ground := Ground.phase }, { on := 14, ground := Ground.phase }, { on := 15, ground := Ground.phase }, { on := 16, ground := Ground.phase }, { on := 17, ground := Ground.phase }, { on := 18, ground := Ground.phase }, { on := 19, ground := Ground.phase }, { on := 20, ground := Ground.phase }, { on := 21, ground := Ground.phase }, { on := 22, ground := Ground.phase }, { on := 23, ground := Ground.phase }, { on := 24, ground := Ground.phase }], guard := none }) rfl (fun K hK => ?_) AllReadyH.nil)
    go_simp
    refine hK.out _ _ (hcx _) (fun _ => ?_)
    clear hK K
    try simp only [Act.put, List.setIfInBounds_toArray, List.set_cons_zero, List.set_cons_succ]
    exact wpAnyH_done (Q := calmD Q) (by kernel_rfl) h _

end Go.Proofs.YticdedcgmofpjaaDoor.K
