import Derived.Test.YthkphihgdklbbaaDoorBfItr
import Derived.Lib.AppendZerosOnto
namespace Go.Proofs.YthkphihgdklbbaaDoor.C
open Go.RowKit Go.Shelf
attribute [local go_sem] Oper.semAt_some
set_option linter.unusedVariables false

theorem zeroCells_one (z : Value) (m : Nat) (h : z.cells = #[z]) : (Builtin.zeroCells z.cells m).toList = List.replicate m z := by
  rw [h]
  have hs : (Builtin.zeroCells #[z] m).toList.length = m := by rw [Array.length_toList, size_zeroCells]; simp
  refine List.eq_replicate_iff.mpr ⟨hs, fun x hx => ?_⟩
  rw [Array.mem_toList_iff] at hx
  simp [Builtin.zeroCells] at hx
  obtain ⟨i, hi, rfl⟩ := hx
  rw [show i % 1 = 0 from Nat.mod_one i]; rfl

/-- An append of so many zeros to a row of one's own. -/
theorem run_append_zeros_own {P : Program} (w : World) (base : Nat) (t u ty e : TypeId) (i : TypeInfo) (z : Value) (ht : P.underlying t = some (.slice e)) (hu : P.underlying u = some (.int .i64)) (hi : P.info? e = some i) (hz : i.zero = some z) (hsize : i.size = 1) (hby : i.bytes = 1) (hzc : z.cells = #[z]) (hz1 : z.oneCell' = true)
    (v : Value) (n : Nat) (xs : List Value) (hown : w.ownsRow base e 1 v n xs) (m : Nat) (h0 : 0 < m) (hb : n + m ≤ 1048576) (hbase : base ≤ w.heap.size) :
    ∃ v' w', (Builtin.append_ #[t, u] ty #[v, .int .i64 m]).run P w = .ok v' w' ∧ w'.ownsRow base e 1 v' (n + m) (xs ++ List.replicate m z) ∧ w.grownBy w' v.ownBlock ∧ (v'.ownBlock = v.ownBlock ∨ v'.ownBlock = some w.heap.size) := by
  have hmx : n + m ≤ maxLen := by simp only [maxLen]; omega
  have hlen : (xs ++ List.replicate m z).length = (n + m) * 1 := by rw [List.length_append, hown.1, List.length_replicate]; omega
  have hzl : (Builtin.zeroCells z.cells m).toList = List.replicate m z := zeroCells_one z m hzc
  have hza : Builtin.zeroCells z.cells m = (List.replicate m z).toArray := by rw [← hzl]
  have grown : ∀ (old : Nat) (row : Option Nat), old < n + m →
      (w.drew.alloc (.cells (xs.toArray ++ Builtin.zeroCells z.cells m ++ Builtin.zeroCells z.cells (grownCap w (n + m) old e - (n + m))) e)).ownsRow base e 1 (.slice (some ⟨w.heap.size, 0, none⟩) (n + m) (grownCap w (n + m) old e)) (n + m) (xs ++ List.replicate m z) ∧
      w.grownBy (w.drew.alloc (.cells (xs.toArray ++ Builtin.zeroCells z.cells m ++ Builtin.zeroCells z.cells (grownCap w (n + m) old e - (n + m))) e)) row := by
    intro old row ho
    have hge := grownCap_ge w (n + m) old e
    have hcm : grownCap w (n + m) old e ≤ maxLen := grownCap_le_maxLen w (n + m) old e hmx
    refine ⟨⟨hlen, .inr ⟨w.heap.size, _, _, rfl, hbase, heap_alloc_new w.drew _, hge, hcm, ?_, ?_⟩⟩, ⟨rfl, rfl, rfl, by simp, fun k hk _ => Below.heap_alloc w.drew _ k hk⟩⟩
    · rw [hza]
      simp only [Array.size_append, List.size_toArray, size_zeroCells, hown.1, List.length_replicate, hzc]
      show n * 1 + m + (_ * 1) = _ * 1
      omega
    · rw [hza]
      simp only [Array.toList_append, List.append_assoc]
      rw [← List.append_assoc, ← hlen]
      exact List.take_left
  rcases hown.2 with ⟨rfl, rfl⟩ | ⟨g, cap, cur, rfl, hbg, hg, hnc, hcm, hcs, htake⟩
  · have hx : xs = [] := List.eq_nil_of_length_eq_zero (by simpa using hown.1)
    subst hx
    have hgr := grown 0 (Value.ownBlock (.slice none 0 0)) (by omega)
    have hr := Lib.run_append_grow_zeros (P := P) w t u ty e i z .i64 .i64 ht hu hi hz none 0 0 [] (by simp [Builtin.firstCells]) m h0 (by omega) (by omega) (by omega) (by rw [hby]; omega) (growslice_fits (by omega) (by rw [hby]; omega))
    exact ⟨_, _, hr, hgr.1, hgr.2, .inr rfl⟩
  · by_cases hroom : n + m ≤ cap
    · have hst := run_storeCells_at P g n e (List.replicate m z) 0 cur w hg (by rw [List.length_replicate, hcs]; omega) (fun v hv => by rw [(List.mem_replicate.mp hv).2]; exact hz1)
      simp only [Nat.add_zero] at hst
      have hw : IntKind.i64.wrap (m : Int) = m := by rw [IntKind.wrap_i64]; omega
      have hneg : ¬ ((m : Int) < 0) := by omega
      have h48 : ¬ (281474976710656 < (m : Int)) := by omega
      have hm0 : m ≠ 0 := by omega
      have hr : (Builtin.append_ #[t, u] ty #[.slice (some ⟨g, 0, none⟩) n cap, .int .i64 m]).run P w = .ok (.slice (some ⟨g, 0, none⟩) (n + m) cap) (w.setRow g (cur.toList.take n ++ List.replicate m z ++ cur.toList.drop (n + (List.replicate m z).length)).toArray) := by
        simp [Builtin.append_, run_underlying ht, run_underlying hu, sizeOf, typeInfo, zeroValue, hi, hz, asInt, asIntOf, hw, hneg, h48, hsize, hby, hroom, hm0, hzl, Addr.add_lit]
        rw [hst]
        simp
      refine ⟨_, _, hr, ⟨hlen, .inr ⟨g, cap, _, rfl, hbg, setRow_heap w g cur _ e _ hg, hroom, hcm, ?_, ?_⟩⟩, ⟨rfl, rfl, rfl, by simp, fun k _ hk => setRow_other w g k _ (fun e => hk (by simp [Value.ownBlock, e]))⟩, .inl rfl⟩
      · simp only [List.size_toArray, List.length_append, List.length_take, List.length_drop, Array.length_toList, List.length_replicate]
        omega
      · have ht2 : cur.toList.take n = xs := by rw [← htake]; congr 1; omega
        rw [ht2, ← hlen]
        exact List.take_left
    · have holds : ∀ j u, xs[j]? = some u → w.drew.cell? ((⟨g, 0, none⟩ : Addr).add j) = some u := hown.cells (g := g) rfl
      have hf := run_firstCells_some (P := P) w.drew i.size n ⟨g, 0, none⟩ n cap xs (by rw [hsize]; exact hown.1) holds
      have hgr := grown cap (Value.ownBlock (.slice (some ⟨g, 0, none⟩) n cap)) (by omega)
      have hr := Lib.run_append_grow_zeros (P := P) w t u ty e i z .i64 .i64 ht hu hi hz (some ⟨g, 0, none⟩) n cap xs hf m h0 (by omega) (by omega) (by omega) (by rw [hby]; omega) (growslice_fits (by omega) (by rw [hby]; omega))
      exact ⟨_, _, hr, hgr.1, hgr.2, .inr rfl⟩

theorem zeros_op {P : Program} {ops : Array Oper} {Q : Exit → Act → World → Prop} {j : Nat} {K : Act → World → Prop} {a : Act} {w : World} {o : Oper} (hj : ops[j]? = some o) (hgd : o.guard = none) (s x : Operand) (t u : TypeId)
    (hop : o.op = Op.call { callee := Callee.builtin Builtin.append, args := #[s, x], argTypes := #[t, u] }) (base : Nat) (e : TypeId) (i : TypeInfo) (z : Value) (ht : P.underlying t = some (.slice e)) (hu : P.underlying u = some (.int .i64)) (hi : P.info? e = some i) (hz : i.zero = some z) (hsize : i.size = 1) (hby : i.bytes = 1) (hzc : z.cells = #[z]) (hz1 : z.oneCell' = true)
    (v : Value) (n : Nat) (xs : List Value) (hs : a.eval s = v) (hown : w.ownsRow base e 1 v n xs) (m : Nat) (hx : a.eval x = .int .i64 m) (h0 : 0 < m) (hb : n + m ≤ 1048576) (hbase : base ≤ w.heap.size)
    (hK : ∀ v' w', w'.ownsRow base e 1 v' (n + m) (xs ++ List.replicate m z) → w.grownBy w' v.ownBlock → (v'.ownBlock = v.ownBlock ∨ v'.ownBlock = some w.heap.size) → K (a.put o.dst v') w') : wpOp P ops Q j K a w := by
  unfold wpOp
  simp only [hj]
  have hw : Region.wanted o (yielded ops a.tmps) = true := by simp [Region.wanted, hgd]
  rw [if_pos hw]
  left
  obtain ⟨v', w', hrun, r1, r2, r3⟩ := run_append_zeros_own w base t u o.type e i z ht hu hi hz hsize hby hzc hz1 v n xs hown m h0 hb hbase
  unfold Oper.wp
  simp [execOp, hop, resolve, invoke, builtin, hs, hx, hrun, Result.andThen]
  exact hK v' w' r1 r2 r3
theorem Tryd.info_u8b : (Tryd.prog.info? 5).map (fun i => (i.zero, i.size, i.bytes)) = some (some (.int .u8 0), 1, 1) := by kernel_rfl

def ops4 : Array Oper := #[{ dst := some 25, op := Op.load 25 (Operand.tmp 3), type := 25, pos := "buffer.go:77", after := #[], guard := none },
  { dst := some 26, op := Op.load 25 (Operand.tmp 3), type := 25, pos := "buffer.go:77", after := #[], guard := none },
  { dst := some 27, op := Op.nilCheck (Operand.tmp 26), type := 0, pos := "buffer.go:77", after := #[{ on := 1, ground := Ground.data }], guard := none },
  { dst := some 28, op := Op.fieldAddr 86 (Operand.tmp 27) 1, type := 0, pos := "buffer.go:77", after := #[{ on := 2, ground := Ground.data }], guard := none },
  { dst := some 29, op := Op.load 36 (Operand.tmp 28), type := 36, pos := "buffer.go:77", after := #[{ on := 3, ground := Ground.data }], guard := none },
  { dst := some 30, op := Op.move (Operand.tmp 6), type := 3, pos := "buffer.go:77", after := #[], guard := none },
  { dst := some 31, op := Op.call { callee := Callee.builtin Builtin.append, args := #[Operand.tmp 29, Operand.tmp 30], argTypes := #[36, 3] }, type := 36, pos := "buffer.go:77", after := #[{ on := 4, ground := Ground.data }, { on := 5, ground := Ground.data }], guard := none },
  { dst := some 32, op := Op.nilCheck (Operand.tmp 25), type := 0, pos := "buffer.go:77", after := #[{ on := 0, ground := Ground.data }, { on := 0, ground := Ground.phase }, { on := 1, ground := Ground.phase }, { on := 2, ground := Ground.phase }, { on := 3, ground := Ground.phase }, { on := 4, ground := Ground.phase }, { on := 5, ground := Ground.phase }, { on := 6, ground := Ground.phase }], guard := none },
  { dst := some 33, op := Op.fieldAddr 86 (Operand.tmp 32) 1, type := 0, pos := "buffer.go:77", after := #[{ on := 7, ground := Ground.data }, { on := 0, ground := Ground.phase }, { on := 1, ground := Ground.phase }, { on := 2, ground := Ground.phase }, { on := 3, ground := Ground.phase }, { on := 4, ground := Ground.phase }, { on := 5, ground := Ground.phase }, { on := 6, ground := Ground.phase }], guard := none },
  { dst := none, op := Op.store 36 (Operand.tmp 33) (Operand.tmp 31), type := 0, pos := "buffer.go:77", after := #[{ on := 8, ground := Ground.data }, { on := 6, ground := Ground.data }, { on := 6, ground := Ground.chain }, { on := 0, ground := Ground.phase }, { on := 1, ground := Ground.phase }, { on := 2, ground := Ground.phase }, { on := 3, ground := Ground.phase }, { on := 4, ground := Ground.phase }, { on := 5, ground := Ground.phase }, { on := 6, ground := Ground.phase }], guard := none }]
set_option maxRecDepth 100000 in
set_option maxHeartbeats 4000000 in
theorem reg4 (Q : Exit → Act → World → Prop) (hp : ∀ c a a' w, Q (.panic c) a w → Q (.panic c) a' w) (P3 Bb n m : Nat) (hv ab : Value) (dr : Bool) (bv : Value) (xs : List Value) {t0 t1 t2 t4 t5 t7 t8 t9 t10 t11 t12 t13 t14 t15 t16 t17 t18 t19 t20 t21 t22 t23 t24 t25 t26 t27 t28 t29 t30 t31 t32 t33 t34 t35 t36 t37 t38 t39 t40 t41 t42 t43 t44 t45 t46 t47 t48 t49 t50 t51 t52 t53 t54 t55 t56 t57 t58 t59 t60 t61 : Value} (W : World)
    (hown : W.ownsRow 0 5 1 bv n xs) (h0 : 0 < m) (hb : n + m ≤ 1048576) (hP : W.heap[P3]? = some (.cells #[.pointer (some ⟨Bb, 0, none⟩)] 25 (0, 0))) (hB : W.heap[Bb]? = some (.cells #[hv, bv, .bool dr] 86 (0, 0)))
    (h : ∀ v' w', w'.ownsRow 0 5 1 v' (n + m) (xs ++ List.replicate m (.int .u8 0)) → W.drew.grownBy w' bv.ownBlock → (v'.ownBlock = bv.ownBlock ∨ v'.ownBlock = some W.heap.size) → w'.heap[Bb]? = some (.cells #[hv, bv, .bool dr] 86 (0, 0)) → Q .normal { tmps := #[t0, t1, t2, .pointer (some ⟨P3, 0, none⟩), t4, t5, .int .i64 (m : Int), t7, t8, t9, t10, t11, t12, t13, t14, t15, t16, t17, t18, t19, t20, t21, t22, t23, t24, .pointer (some ⟨Bb, 0, none⟩), .pointer (some ⟨Bb, 0, none⟩), .pointer (some ⟨Bb, 0, none⟩), .pointer (some ⟨Bb, 1, none⟩), bv, .int .i64 (m : Int), v', .pointer (some ⟨Bb, 0, none⟩), .pointer (some ⟨Bb, 1, none⟩), t34, t35, t36, t37, t38, t39, t40, t41, t42, t43, t44, t45, t46, t47, t48, t49, t50, t51, t52, t53, t54, t55, t56, t57, t58, t59, t60, t61], defers := [] } (w'.setCell ⟨Bb, 1, none⟩ v')) :
    (Code.region 4 ops4 true).wp Tryd.prog Q { tmps := #[t0, t1, t2, .pointer (some ⟨P3, 0, none⟩), t4, t5, .int .i64 (m : Int), t7, t8, t9, t10, t11, t12, t13, t14, t15, t16, t17, t18, t19, t20, t21, t22, t23, t24, t25, t26, t27, t28, t29, t30, t31, t32, t33, t34, t35, t36, t37, t38, t39, t40, t41, t42, t43, t44, t45, t46, t47, t48, t49, t50, t51, t52, t53, t54, t55, t56, t57, t58, t59, t60, t61], defers := [] } W := by
  refine wp_region_held (S := fun V => V.cell? ⟨P3, 0, none⟩ = some (.pointer (some ⟨Bb, 0, none⟩))) (by kernel_rfl) ?_
  change wpAnyH _ _ _ _ _ _ _ _ W.drew
  have hS : W.drew.cell? ⟨P3, 0, none⟩ = some (.pointer (some ⟨Bb, 0, none⟩)) := cell_of_one (show W.drew.heap[P3]? = _ from hP)
  have hb0 : W.drew.cell? ⟨Bb, 1, none⟩ = some bv := cell_of_row _ _ 1 _ _ _ (show W.drew.heap[Bb]? = _ from hB)
  obtain ⟨a0, n0, c0, rfl⟩ : ∃ a n c, bv = .slice a n c := by
    obtain ⟨_, ⟨rfl, _⟩ | ⟨g', cap, cur, rfl, _⟩⟩ := hown
    · exact ⟨_, _, _, rfl⟩
    · exact ⟨_, _, _, rfl⟩
  obtain ⟨i0, hi, hz0, hz1, hz2⟩ := info_parts Tryd.info_u8b
  refine wpAnyH_take (i := 0) (oi := { dst := some 25, op := Op.load 25 (Operand.tmp 3), type := 25, pos := "buffer.go:77", after := #[], guard := none }) (v := .pointer (some ⟨Bb, 0, none⟩)) rfl (by kernel_rfl) (by kernel_rfl) (by kernel_rfl) (fun _ _ _ h => hp _ _ _ _ h) (.inl ⟨by kernel_rfl, fun V hV => ?_⟩) hS ?_
  · have s0 := hV
    go_simp
  simp only [Act.put, List.setIfInBounds_toArray, List.set_cons_zero, List.set_cons_succ]
  refine wpAnyH_take (i := 1) (oi := { dst := some 26, op := Op.load 25 (Operand.tmp 3), type := 25, pos := "buffer.go:77", after := #[], guard := none }) (v := .pointer (some ⟨Bb, 0, none⟩)) rfl (by kernel_rfl) (by kernel_rfl) (by kernel_rfl) (fun _ _ _ h => hp _ _ _ _ h) (.inl ⟨by kernel_rfl, fun V hV => ?_⟩) hS ?_
  · have s0 := hV
    go_simp
  simp only [Act.put, List.setIfInBounds_toArray, List.set_cons_zero, List.set_cons_succ]
  refine wpAnyH_take (i := 2) (oi := { dst := some 27, op := Op.nilCheck (Operand.tmp 26), type := 0, pos := "buffer.go:77", after := #[{ on := 1, ground := Ground.data }], guard := none }) (v := .pointer (some ⟨Bb, 0, none⟩)) rfl (by kernel_rfl) (by kernel_rfl) (by kernel_rfl) (fun _ _ _ h => hp _ _ _ _ h) (.inl ⟨by kernel_rfl, fun V hV => ?_⟩) hS ?_
  · have s0 := hV
    go_simp
  simp only [Act.put, List.setIfInBounds_toArray, List.set_cons_zero, List.set_cons_succ]
  refine wpAnyH_take (i := 3) (oi := { dst := some 28, op := Op.fieldAddr 86 (Operand.tmp 27) 1, type := 0, pos := "buffer.go:77", after := #[{ on := 2, ground := Ground.data }], guard := none }) (v := .pointer (some ⟨Bb, 1, none⟩)) rfl (by kernel_rfl) (by kernel_rfl) (by kernel_rfl) (fun _ _ _ h => hp _ _ _ _ h) (.inl ⟨by kernel_rfl, fun V hV => ?_⟩) hS ?_
  · have s0 := hV
    go_simp
  simp only [Act.put, List.setIfInBounds_toArray, List.set_cons_zero, List.set_cons_succ]
  refine wpAnyH_take (i := 5) (oi := { dst := some 30, op := Op.move (Operand.tmp 6), type := 3, pos := "buffer.go:77", after := #[], guard := none }) (v := .int .i64 (m : Int)) rfl (by kernel_rfl) (by kernel_rfl) (by kernel_rfl) (fun _ _ _ h => hp _ _ _ _ h) (.inl ⟨by kernel_rfl, fun V hV => ?_⟩) hS ?_
  · have s0 := hV
    go_simp
  simp only [Act.put, List.setIfInBounds_toArray, List.set_cons_zero, List.set_cons_succ]
  refine wpAnyH_ready (rs := [4]) (by kernel_rfl) (by simp) ?_
  refine AllReadyH.cons (o := { dst := some 29, op := Op.load 36 (Operand.tmp 28), type := 36, pos := "buffer.go:77", after := #[{ on := 3, ground := Ground.data }], guard := none }) rfl (fun K hK => ?_) AllReadyH.nil
  go_simp
  refine hK.out _ _ hS (fun _ => ?_)
  clear hK K
  try simp only [Act.put, List.setIfInBounds_toArray, List.set_cons_zero, List.set_cons_succ]
  refine wpAnyH_all (rs := [6]) (by kernel_rfl) (by simp) ?_
  intro i hi6
  obtain rfl : i = 6 := by simpa using hi6
  have hund : Tryd.prog.underlying 3 = some (.int .i64) := by kernel_rfl
  refine zeros_op (j := 6) (o := { dst := some 31, op := Op.call { callee := Callee.builtin Builtin.append, args := #[Operand.tmp 29, Operand.tmp 30], argTypes := #[36, 3] }, type := 36, pos := "buffer.go:77", after := #[{ on := 4, ground := Ground.data }, { on := 5, ground := Ground.data }], guard := none }) rfl rfl (.tmp 29) (.tmp 30) 36 3 rfl 0 5 i0 (.int .u8 0) Tryd.underlying36 hund hi hz0 hz1 hz2 rfl rfl (.slice a0 n0 c0) n xs (by simp [Act.eval]) (w := W.drew) hown m (by simp [Act.eval]) h0 hb (Nat.zero_le _) ?_
  intro v' w' r1 r2 r3
  have hne : ∀ g, (Value.slice a0 n0 c0).ownBlock = some g → g ≠ Bb := fun g hg e => by
    subst e
    obtain ⟨_, ⟨h9, _⟩ | ⟨g', cap, cur, h9, _, hh, _⟩⟩ := hown
    · rw [h9] at hg; cases hg
    · rw [h9] at hg; cases hg; rw [hB] at hh; cases hh
  have hne2 : ∀ g, (Value.slice a0 n0 c0).ownBlock = some g → g ≠ P3 := fun g hg e => by
    subst e
    obtain ⟨_, ⟨h9, _⟩ | ⟨g', cap, cur, h9, _, hh, _⟩⟩ := hown
    · rw [h9] at hg; cases hg
    · rw [h9] at hg; cases hg; rw [hP] at hh; cases hh
  have hB' : w'.heap[Bb]? = some (.cells #[hv, .slice a0 n0 c0, .bool dr] 86 (0, 0)) := (r2.block Bb (Array.getElem?_eq_some_iff.1 hB).1 (fun e => hne Bb e.symm rfl)).trans hB
  have hP' : w'.heap[P3]? = some (.cells #[.pointer (some ⟨Bb, 0, none⟩)] 25 (0, 0)) := (r2.block P3 (Array.getElem?_eq_some_iff.1 hP).1 (fun e => hne2 P3 e.symm rfl)).trans hP
  have hSw : w'.cell? ⟨P3, 0, none⟩ = some (.pointer (some ⟨Bb, 0, none⟩)) := cell_of_one hP'
  refine ⟨hSw, ?_⟩
  have hfz : w'.frozen? ⟨Bb, 1, none⟩ = false := frozen_of_row _ _ 1 _ _ hB'
  have hbv : w'.cell? ⟨Bb, 1, none⟩ = some (.slice a0 n0 c0) := cell_of_row _ _ 1 _ _ _ hB'
  have hfin := h v' w' r1 r2 r3 hB'
  obtain ⟨a1, n1, c1, rfl⟩ : ∃ a n c, v' = .slice a n c := by
    obtain ⟨_, ⟨rfl, _⟩ | ⟨g', cap, cur, rfl, _⟩⟩ := r1
    · exact ⟨_, _, _, rfl⟩
    · exact ⟨_, _, _, rfl⟩
  simp only [Act.put, List.setIfInBounds_toArray, List.set_cons_zero, List.set_cons_succ]
  refine wpAnyH_take (i := 7) (oi := { dst := some 32, op := Op.nilCheck (Operand.tmp 25), type := 0, pos := "buffer.go:77", after := #[{ on := 0, ground := Ground.data }, { on := 0, ground := Ground.phase }, { on := 1, ground := Ground.phase }, { on := 2, ground := Ground.phase }, { on := 3, ground := Ground.phase }, { on := 4, ground := Ground.phase }, { on := 5, ground := Ground.phase }, { on := 6, ground := Ground.phase }], guard := none }) (v := .pointer (some ⟨Bb, 0, none⟩)) rfl (by kernel_rfl) (by kernel_rfl) (by kernel_rfl) (fun _ _ _ h => hp _ _ _ _ h) (.inl ⟨by kernel_rfl, fun V hV => ?_⟩) hSw ?_
  · have s0 := hV
    go_simp
  simp only [Act.put, List.setIfInBounds_toArray, List.set_cons_zero, List.set_cons_succ]
  refine wpAnyH_take (i := 8) (oi := { dst := some 33, op := Op.fieldAddr 86 (Operand.tmp 32) 1, type := 0, pos := "buffer.go:77", after := #[{ on := 7, ground := Ground.data }, { on := 0, ground := Ground.phase }, { on := 1, ground := Ground.phase }, { on := 2, ground := Ground.phase }, { on := 3, ground := Ground.phase }, { on := 4, ground := Ground.phase }, { on := 5, ground := Ground.phase }, { on := 6, ground := Ground.phase }], guard := none }) (v := .pointer (some ⟨Bb, 1, none⟩)) rfl (by kernel_rfl) (by kernel_rfl) (by kernel_rfl) (fun _ _ _ h => hp _ _ _ _ h) (.inl ⟨by kernel_rfl, fun V hV => ?_⟩) hSw ?_
  · have s0 := hV
    go_simp
  simp only [Act.put, List.setIfInBounds_toArray, List.set_cons_zero, List.set_cons_succ]
  refine wpAnyH_ready (rs := [9]) (by kernel_rfl) (by simp) ?_
  refine AllReadyH.cons (o := { dst := none, op := Op.store 36 (Operand.tmp 33) (Operand.tmp 31), type := 0, pos := "buffer.go:77", after := #[{ on := 8, ground := Ground.data }, { on := 6, ground := Ground.data }, { on := 6, ground := Ground.chain }, { on := 0, ground := Ground.phase }, { on := 1, ground := Ground.phase }, { on := 2, ground := Ground.phase }, { on := 3, ground := Ground.phase }, { on := 4, ground := Ground.phase }, { on := 5, ground := Ground.phase }, { on := 6, ground := Ground.phase }], guard := none }) rfl (fun K hK => ?_) AllReadyH.nil
  go_simp
  have hPB : P3 ≠ Bb := fun e => by subst e; rw [hP'] at hB'; cases hB'
  refine hK.out _ _ ((World.cell?_of_block (Below.heap_setCell _ _ _ _ hPB)).trans hSw) (fun _ => ?_)
  clear hK K
  exact wpAnyH_done (by kernel_rfl) hfin _

end Go.Proofs.YthkphihgdklbbaaDoor.C

namespace Go.Proofs.YthkphihgdklbbaaDoor.C
open Go.RowKit Go.Shelf
attribute [local go_sem] Oper.semAt_some
set_option linter.unusedVariables false

/-- Ahead of the loop of take: the row of bytes is long enough. -/
structure TP (w : World) (Bb : Nat) (hv bv : Value) (at' : Int) (dv : Value) (base : List Int) (gb cpb : Nat) (W : World) : Prop where
  p3 : W.heap[w.heap.size]? = some (.cells #[.pointer (some ⟨Bb, 0, none⟩)] 25 (0, 0))
  p4 : W.heap[w.heap.size + 1]? = some (.cells #[.int .i64 at'] 3 (0, 0))
  p5 : W.heap[w.heap.size + 1 + 1]? = some (.cells #[dv] 36 (0, 0))
  bb : W.heap[Bb]? = some (.cells #[hv, .slice (some ⟨gb, 0, none⟩) base.length cpb, .bool false] 86 (0, 0))
  gr : ∃ rest : List Value, W.heap[gb]? = some (.cells (base.map (Value.int .u8) ++ rest).toArray 5 (0, 0)) ∧ cpb = base.length + rest.length
  cp : cpb ≤ maxLen
  wh : bv.ownBlock = some gb ∨ w.heap.size + 3 ≤ gb
  keep : ∀ k, k < w.heap.size → k ≠ Bb → bv.ownBlock ≠ some k → W.heap[k]? = w.heap[k]?
  big : w.heap.size + 3 ≤ W.heap.size
  ox : Ox w W
theorem TP.lt {w W : World} {Bb gb cpb : Nat} {hv bv dv : Value} {at' : Int} {base : List Int} (h : TP w Bb hv bv at' dv base gb cpb W) : gb < W.heap.size := by
  obtain ⟨r, h1, _⟩ := h.gr; exact (Array.getElem?_eq_some_iff.1 h1).1
theorem TP.ne {w W : World} {Bb gb cpb : Nat} {hv bv dv : Value} {at' : Int} {base : List Int} (h : TP w Bb hv bv at' dv base gb cpb W) : w.heap.size ≠ gb ∧ w.heap.size + 1 ≠ gb ∧ w.heap.size + 1 + 1 ≠ gb ∧ Bb ≠ gb := by
  obtain ⟨r, h1, _⟩ := h.gr
  refine ⟨fun e => ?_, fun e => ?_, fun e => ?_, fun e => ?_⟩
  · rw [← e, h.p3] at h1; simp only [Option.some.injEq, Obj.cells.injEq] at h1; exact absurd h1.2.1 (by decide)
  · rw [← e, h.p4] at h1; simp only [Option.some.injEq, Obj.cells.injEq] at h1; exact absurd h1.2.1 (by decide)
  · rw [← e, h.p5] at h1; simp only [Option.some.injEq, Obj.cells.injEq] at h1; exact absurd h1.2.1 (by decide)
  · rw [← e, h.bb] at h1; simp only [Option.some.injEq, Obj.cells.injEq] at h1; exact absurd h1.2.1 (by decide)
theorem TP.below {w V V' : World} {Bb gb cpb : Nat} {hv bv dv : Value} {at' : Int} {base : List Int} (h : TP w Bb hv bv at' dv base gb cpb V) (hb : Below V.heap.size V V') : TP w Bb hv bv at' dv base gb cpb V' := by
  obtain ⟨r, h1, h2⟩ := h.gr
  exact ⟨(hb.block _ (Array.getElem?_eq_some_iff.1 h.p3).1).trans h.p3, (hb.block _ (Array.getElem?_eq_some_iff.1 h.p4).1).trans h.p4, (hb.block _ (Array.getElem?_eq_some_iff.1 h.p5).1).trans h.p5, (hb.block _ (Array.getElem?_eq_some_iff.1 h.bb).1).trans h.bb, ⟨r, (hb.block _ (Array.getElem?_eq_some_iff.1 h1).1).trans h1, h2⟩, h.cp, h.wh, fun k hk k1 k2 => (hb.block k (by have := h.big; omega)).trans (h.keep k hk k1 k2), by have := h.big; have := hb.size; omega, h.ox.trans (.bel hb)⟩
theorem TP.drew {w V : World} {Bb gb cpb : Nat} {hv bv dv : Value} {at' : Int} {base : List Int} (h : TP w Bb hv bv at' dv base gb cpb V) : TP w Bb hv bv at' dv base gb cpb V.drew := h.below ((Below.refl _ _).drew)
theorem TP.cells {w V : World} {Bb gb cpb : Nat} {hv bv dv : Value} {at' : Int} {base : List Int} (h : TP w Bb hv bv at' dv base gb cpb V) : V.cell? ⟨w.heap.size, 0, none⟩ = some (.pointer (some ⟨Bb, 0, none⟩)) ∧ V.cell? ⟨w.heap.size + 1, 0, none⟩ = some (.int .i64 at') ∧ V.cell? ⟨w.heap.size + 1 + 1, 0, none⟩ = some dv ∧ V.cell? ⟨Bb, 0, none⟩ = some hv :=
  ⟨cell_of_one h.p3, cell_of_one h.p4, cell_of_one h.p5, cell_of_row _ _ 0 _ _ _ h.bb⟩

/-- What the loop of take keeps. -/
structure TJ (gb cpb : Nat) (zs : List Int) (at' : Int) (base : List Int) (W6 : World) (pre : List Pz) (W : World) : Prop where
  gr : ∃ rest : List Value, W.heap[gb]? = some (.cells ((lay zs at' base pre).map (Value.int .u8) ++ rest).toArray 5 (0, 0)) ∧ cpb = base.length + rest.length
  keep : ∀ k, k < W6.heap.size → k ≠ gb → W.heap[k]? = W6.heap[k]?
  size : W6.heap.size ≤ W.heap.size
  ox : Ox W6 W
theorem TJ.own {gb cpb B : Nat} {zs base : List Int} {at' : Int} {W6 : World} {L : List Pz} (hB : W6.heap.size ≤ B) : OwnFrom B (fun (pre : List { x : Pz // x ∈ L }) W => TJ gb cpb zs at' base W6 (pre.map Subtype.val) W) := fun _ X Y row hs hg hr => by
  obtain ⟨r, h1, h2⟩ := hs.gr
  exact ⟨⟨r, cells_keep h1 hg hr, h2⟩, fun k hk hne => (hg.block k (Nat.lt_of_lt_of_le hk hs.size) (fun e => by have := (hr k e.symm).1; omega)).trans (hs.keep k hk hne), Nat.le_trans hs.size hg.size, hs.ox.trans (.gro hg)⟩
theorem TJ.alloc {gb cpb : Nat} {zs base : List Int} {at' : Int} {W6 W : World} {pre : List Pz} (h : TJ gb cpb zs at' base W6 pre W) (o : Obj) : TJ gb cpb zs at' base W6 pre (W.alloc o) := by
  obtain ⟨r, h1, h2⟩ := h.gr
  exact ⟨⟨r, heapB h1 o, h2⟩, fun k hk hne => (Below.heap_alloc W o k (Nat.lt_of_lt_of_le hk h.size)).trans (h.keep k hk hne), by have := h.size; simp; omega, h.ox⟩
def TkPost (b : Bf) (Bb : Nat) (hv bv : Value) (at' : Int) (zs : List Int) (w : World) (e : Ending) (w' : World) : Prop :=
  (∃ v, e = .returned v) ∧ Ox w w' ∧ w.heap.size ≤ w'.heap.size ∧ (∀ k, k < w.heap.size → k ≠ Bb → bv.ownBlock ≠ some k → w'.heap[k]? = w.heap[k]?) ∧
  ∃ bv', w'.heap[Bb]? = some (.cells #[hv, bv', .bool b.dr] 86 (0, 0)) ∧ w'.ownsRow 0 5 1 bv' (tkB b at' zs).length ((tkB b at' zs).map (Value.int .u8)) ∧ (∀ k, bv'.ownBlock = some k → bv.ownBlock = some k ∨ w.heap.size ≤ k)
theorem tk_end {b : Bf} {Bb gb cpb : Nat} {hv bv dv v : Value} {at' : Int} {zs base : List Int} {w W5 W6 W : World} (hok : b.Ok) (hm : may4 at' zs) (hdr : b.dr = false) (hb : base = pad b.bs (at' + zs.length).toNat) (hT : TP w Bb hv bv at' dv base gb cpb W6) (hJ : TJ gb cpb zs at' base W6 (pc (at' + zs.length) at' b.l) W) (D : Nat) (hD : W6.heap.size ≤ D) :
    TkPost b Bb hv bv at' zs w (.returned v) (W.putObj D (.deferred none)) := by
  have hk : tkB b at' zs = lay zs at' base (pc (at' + zs.length) at' b.l) := by rw [tkB, if_neg (by simp [hdr]), hb]
  have hl : (lay zs at' base (pc (at' + zs.length) at' b.l)).length = base.length := by rw [hb]; exact (lay_get (tk_fit hok hm)).1
  obtain ⟨r, h1, h2⟩ := hJ.gr
  have hlt := hT.lt
  have hsz := hJ.size
  have hbig := hT.big
  have hne := hT.ne
  have hBl : Bb < W6.heap.size := (Array.getElem?_eq_some_iff.1 hT.bb).1
  have hp : ∀ k, k < W6.heap.size → (W.putObj D (.deferred none)).heap[k]? = W.heap[k]? := fun k hk => World.putObj_heap_other (by omega)
  refine ⟨⟨_, rfl⟩, hT.ox.trans hJ.ox, by simp [World.putObj]; omega, fun k k0 k1 k2 => ?_, .slice (some ⟨gb, 0, none⟩) base.length cpb, ?_, ?_, fun k e => ?_⟩
  · rw [hp k (by omega), hJ.keep k (by omega) (fun e => ?_)]
    · exact hT.keep k k0 k1 k2
    · rcases hT.wh with h | h
      · exact k2 (by rw [e]; exact h)
      · omega
  · rw [hp Bb hBl, hJ.keep Bb hBl hne.2.2.2, hdr]; exact hT.bb
  · rw [hk, hl]
    refine ⟨by simp [hl], .inr ⟨gb, cpb, _, rfl, Nat.zero_le _, (hp gb hlt).trans h1, by omega, hT.cp, ?_, ?_⟩⟩
    · simp [hl]; omega
    · rw [Nat.mul_one]
      have : ((lay zs at' base (pc (at' + zs.length) at' b.l)).map (Value.int .u8)).length = base.length := by simp [hl]
      rw [← this]; exact List.take_left
  · have hgk : gb = k := by simpa [Value.ownBlock] using e
    subst hgk
    rcases hT.wh with h | h
    · exact .inl h
    · exact .inr (by omega)

set_option maxRecDepth 100000 in
set_option maxHeartbeats 4000000 in
theorem take_any (Bb : Nat) (b : Bf) (hv bv : Value) (at' : Int) (ad : Option Addr) (nd cd : Nat) (zs : List Int) (w : World) (hB : BuC w Bb b hv bv) (hm : may4 at' zs) (hnd : zs.length = nd) (hdc : nd ≤ cd) (hdm : cd ≤ 9223372036854775807) (hz : Lies .u8 w ad zs) (hsep : ∀ g, (Value.slice ad nd cd).ownBlock = some g → bv.ownBlock ≠ some g ∧ g ≠ Bb) (n : Nat) (hn : 9 ≤ n) :
    CallsIn Fence.wide n Tryd.prog 51 #[.pointer (some ⟨Bb, 0, none⟩), .int .i64 at', .slice ad nd cd] w (TkPost b Bb hv bv at' zs w) := by
  have h1 : 1 ≤ n := by omega
  have HM : Hid (may4 at' zs) := hm
  have hX := x4_start (dv := .slice ad nd cd) at' hB.blk
  have HB : Hid (BuC w Bb b hv bv) := hB
  have HZ : Hid (Lies .u8 w ad zs ∧ zs.length = nd) := ⟨hz, hnd⟩
  have HSP : Hid (∀ g, (Value.slice ad nd cd).ownBlock = some g → bv.ownBlock ≠ some g ∧ g ≠ Bb) := hsep
  obtain ⟨V0, hV0⟩ : ∃ V0, V0 = (((w.alloc (.cells #[.pointer (some ⟨Bb, 0, none⟩)] 25)).alloc (.cells #[.int .i64 at'] 3)).alloc (.cells #[.slice ad nd cd] 36)) := ⟨_, rfl⟩
  have hs0 : V0.heap.size = w.heap.size + 1 + 1 + 1 := by rw [hV0]; simp
  rw [← hV0] at hX
  obtain ⟨ab, cpb0, hbv⟩ : ∃ ab c, bv = .slice ab b.bs.length c := own_shape hB.byt
  subst hbv
  refine callsIn_of_wp_marks Tryd.func51 rfl trivial ?_ rfl
  simp only [Tryd.ntmps51, List.size_toArray, List.length_cons, List.length_nil, Nat.reduceAdd, Nat.reduceSub, Array.replicate_succ, Array.replicate_zero, List.push_toArray, List.append_toArray, List.nil_append, List.cons_append]
  refine wpIn_wide.2 (Code.wp_mono (fun _ _ _ h => calmB_le h) ?_)
  clear hm hB hz hnd hsep
  have q1 := cell_of_row _ _ 1 _ _ _ hX.bb
  have q2 := cell_of_row _ _ 2 _ _ _ hX.bb
  simp only [List.getElem?_toArray, List.getElem?_cons_zero, List.getElem?_cons_succ] at q1 q2
  have HS0 : Hid (V0.heap.size = w.heap.size + 3) := hs0
  have HX : Hid (X4 w Bb hv (.slice ab b.bs.length cpb0) b.dr at' (.slice ad nd cd) V0) := hX
  clear hX hs0
  cases hdr : b.dr with
  | true =>
    rw [hdr] at q2
    have HE : Hid (TkPost b Bb hv (.slice ab b.bs.length cpb0) at' zs w (.returned (.tuple #[])) V0) := by
      have hk : tkB b at' zs = b.bs := by rw [tkB, if_pos hdr]
      have hl := HX.out.low
      exact ⟨⟨_, rfl⟩, .bel hl, hl.size, fun k hk _ _ => hl.block k hk, _, HX.out.bb, by rw [hk]; exact own_same0 HB.out.byt (fun g hg => hl.block g (HB.out.byt.lt g hg).2), fun k h => .inl h⟩
    rw [hV0] at q2 HE
    clear q1 HX HS0 hV0
    go_wp2
    change bodyPostM Fence.wide n Tryd.prog _ _ Exit.ret _ _
    exact ⟨_, results_none (fn := Tryd.f51) rfl _ _ _, HE.out⟩
  | false =>
    rw [hdr] at q2 HX
    obtain ⟨base, hbase⟩ : ∃ base, base = pad b.bs (at' + zs.length).toNat := ⟨_, rfl⟩
    have HBS : Hid (base = pad b.bs (at' + zs.length).toNat) := hbase
    have HBL : Hid (base.length = max b.bs.length (at' + nd).toNat) := by unfold Hid; rw [hbase, pad_len, HZ.out.2]
    clear hbase
    have hat := HM.out.2.2.1
    have hle := HM.out.2.2.2
    have hnz := HZ.out.2
    have hn1 := HM.out.2.1
    have hbl := HB.out.ok.len
    have c0 : V0.cell? ⟨w.heap.size, 0, none⟩ = some (.pointer (some ⟨Bb, 0, none⟩)) := HX.out.cells.1
    have c1 : V0.cell? ⟨w.heap.size + 1, 0, none⟩ = some (.int .i64 at') := HX.out.cells.2.1
    have c2 : V0.cell? ⟨w.heap.size + 1 + 1, 0, none⟩ = some (.slice ad nd cd) := HX.out.cells.2.2.1
    have u1 : IntKind.i64.wrap (at' + (nd : Int)) = at' + nd := by rw [IntKind.wrap_i64]; omega
    have u2 : IntKind.i64.wrap (at' + (nd : Int) - (b.bs.length : Int)) = at' + nd - b.bs.length := by rw [IntKind.wrap_i64]; omega
    rw [hV0] at q2
    go_wp2_with fail
    rw [← hV0]
    clear q2 hV0
    go_quiet (fail)
    have HXn : Hid (X4 w Bb hv (.slice ab b.bs.length cpb0) false at' (.slice ad nd cd) (V0.drewN nq)) := HX.out.below (below_drewN (Below.refl _ _) _)
    obtain ⟨V1, hV1⟩ : ∃ V1, V1 = V0.drewN nq := ⟨_, rfl⟩
    have HS1 : Hid (V1.heap.size = w.heap.size + 3) := by rw [hV1]; exact HS0.out
    rw [← hV1] at HXn ⊢
    clear hV1 c0 c1 c2 q1 HX HS0 u1 u2
    by_cases hlk : 0 < at' + (nd : Int) - (b.bs.length : Int)
    · obtain ⟨m, hm⟩ : ∃ m : Nat, (m : Int) = at' + (nd : Int) - (b.bs.length : Int) := ⟨(at' + (nd : Int) - (b.bs.length : Int)).toNat, by omega⟩
      have hm0 : 0 < (m : Int) := by omega
      rw [← hm]
      have HMm : Hid ((m : Int) = at' + (nd : Int) - (b.bs.length : Int) ∧ b.bs.length + m ≤ 1048576) := ⟨hm, by omega⟩
      have hm1 : 0 < m := by omega
      clear hm hlk
      go_wp2_with fail
      refine reg4 _ (fun _ _ _ _ h => h) w.heap.size Bb b.bs.length m hv (.bool true) false (.slice ab b.bs.length cpb0) (b.bs.map (Value.int .u8)) V1 (own_same0 HB.out.byt (fun g hg => HXn.out.low.block g (HB.out.byt.lt g hg).2)) hm1 HMm.out.2 HXn.out.p3 HXn.out.bb ?_
      intro v' w5 r1 r2 r3 r4
      obtain ⟨gb, cpb, rfl⟩ : ∃ gb c, v' = .slice (some ⟨gb, 0, none⟩) (b.bs.length + m) c := own_some r1 (by omega)
      have HTP : Hid (TP w Bb hv (.slice ab b.bs.length cpb0) at' (.slice ad nd cd) base gb cpb (w5.setCell ⟨Bb, 1, none⟩ (.slice (some ⟨gb, 0, none⟩) (b.bs.length + m) cpb))) := by
        have hx := HXn.out
        have hbl' := HBL.out
        have hm := HMm.out.1
        have hbm : base.length = b.bs.length + m := by omega
        have hbs : base.map (Value.int .u8) = b.bs.map (Value.int .u8) ++ List.replicate m (.int .u8 0) := by rw [HBS.out, pad, List.map_append, List.map_replicate]; congr 2; omega
        have hs1 := HS1.out
        have hgr := r2.size
        obtain ⟨hl1, ⟨hn1, _⟩ | ⟨g', cap', cur, hv1, _, hh, hnc, hcm, hcs, htk⟩⟩ := r1
        · cases hn1
        · cases hv1
          have hBw : Bb < w.heap.size := (Array.getElem?_eq_some_iff.1 HB.out.blk).1
          have hgB : gb ≠ Bb := fun e => by rw [e, r4] at hh; cases hh
          have hob : ∀ k, (Value.slice ab b.bs.length cpb0).ownBlock = some k → k < w.heap.size := fun k hk => (HB.out.byt.lt k hk).2
          have hw5 : ∀ k, k < V1.heap.size → k ≠ Bb → (Value.slice ab b.bs.length cpb0).ownBlock ≠ some k → (w5.setCell ⟨Bb, 1, none⟩ (.slice (some ⟨gb, 0, none⟩) (b.bs.length + m) cpb)).heap[k]? = V1.heap[k]? := fun k h1 h2 h3 => (Below.heap_setCell _ _ _ _ h2).trans (r2.block k h1 (fun e => h3 e.symm))
          refine ⟨(hw5 _ (by omega) (by omega) (fun e => by have := hob _ e; omega)).trans hx.p3, (hw5 _ (by omega) (by omega) (fun e => by have := hob _ e; omega)).trans hx.p4, (hw5 _ (by omega) (by omega) (fun e => by have := hob _ e; omega)).trans hx.p5, ?_, ⟨cur.toList.drop (b.bs.length + m), ?_, ?_⟩, hcm, ?_, fun k k0 k1 k2 => (hw5 k (by omega) k1 k2).trans (hx.low.block k k0), by simp [World.setCell]; have h9 : V1.heap.size ≤ w5.heap.size := hgr; omega, ⟨r2.os.trans hx.low.os, r2.tape.trans hx.low.tape, r2.output.trans hx.low.output⟩⟩
          · rw [hbm]; simp [World.setCell, Array.getElem?_modify, r4]
          · rw [Below.heap_setCell _ _ _ _ hgB, hh, hbs]
            have : cur.toList.take (b.bs.length + m) = b.bs.map (Value.int .u8) ++ List.replicate m (.int .u8 0) := by rw [← htk]; congr 1; omega
            rw [← this, List.take_append_drop]
          · rw [hbm, List.length_drop, Array.length_toList]; omega
          · rcases r3 with h | h
            · exact .inl (h ▸ rfl)
            · have : gb = V1.heap.size := by simpa [Value.ownBlock] using h
              exact .inr (by omega)
      obtain ⟨W5, hW5⟩ : ∃ W5, W5 = w5.setCell ⟨Bb, 1, none⟩ (.slice (some ⟨gb, 0, none⟩) (b.bs.length + m) cpb) := ⟨_, rfl⟩
      rw [← hW5] at HTP ⊢
      clear hW5 r1 r2 r3 r4 HXn HS1
      have hpl : ∀ V, Calls Tryd.prog 65 #[.int .i64 at', .slice ad nd cd] V fun e w' => e = .returned (.agg #[.int .i64 at', .int .i64 (at' + nd)]) ∧ Below V.heap.size V w' := fun V => places_any at' ad nd cd V ⟨hat, by omega⟩ (by omega)
      have HWk : Hid (∀ V, TP w Bb hv (.slice ab b.bs.length cpb0) at' (.slice ad nd cd) base gb cpb V → Calls Tryd.prog 66 #[hv, .agg #[.int .i64 at', .int .i64 (at' + nd)]] V (WalkPost b.l at' (at' + nd) V)) := fun V hV => walk_any at' (at' + nd) ((SOwn.ls (base := 0) (own_same0 HB.out.hav (fun g hg => hV.keep g (HB.out.hav.lt g hg).2 (fun e => by
          subst e
          obtain ⟨_, ⟨h9, _⟩ | ⟨g', cap, cur, h9, _, hh, _⟩⟩ := HB.out.hav
          · rw [h9] at hg; cases hg
          · rw [h9] at hg; cases hg; rw [HB.out.blk] at hh; cases hh) (fun e => by
          obtain ⟨_, ⟨h9, _⟩ | ⟨g', cap, cur, h9, _, hh, _⟩⟩ := HB.out.hav
          · rw [h9] at hg; cases hg
          · rw [h9] at hg; cases hg
            obtain ⟨_, ⟨h8, _⟩ | ⟨g', cap, cur, h8, _, hh2, _⟩⟩ := HB.out.byt
            · rw [h8] at e; cases e
            · rw [h8] at e; cases e; rw [hh] at hh2; cases hh2)))) (by have := HB.out.ok.set.1; omega)) HB.out.ok.set ⟨hat, by show at' ≤ at' + (nd : Int); omega, by show at' + (nd : Int) ≤ _; omega⟩
      go_wp2_with fail
      go_cut [41] from 34 (fun q wx => ∃ (Bs Bl : Nat) (a2 : Option Addr) (cc2 : Nat), q = .func (.func 70) #[] #[.pointer (some ⟨Bs, 0, none⟩), .pointer (some ⟨Bl, 0, none⟩)] ∧ Hid (Below W5.heap.size W5 wx ∧ wx.heap[Bs]? = some (.cells #[.int .i64 at', .int .i64 (at' + nd)] 38 (0, 0)) ∧ wx.heap[Bl]? = some (.cells #[.slice a2 (wth b.l (at', at' + (nd : Int))).length cc2] 59 (0, 0)) ∧ SOwn wx W5.heap.size (.slice a2 (wth b.l (at', at' + (nd : Int))).length cc2) (wth b.l (at', at' + (nd : Int))) ∧ W5.heap.size ≤ Bs ∧ W5.heap.size ≤ Bl))
      case first =>
        have hx := HTP.out
        have hy := HTP.out.drew
        have HBe : Hid (Below W5.heap.size W5 W5.drew) := (Below.refl _ _).drew
        go_region_held3 (fun V => V.cell? ⟨w.heap.size, 0, none⟩ = some (.pointer (some ⟨Bb, 0, none⟩)) ∧ V.cell? ⟨w.heap.size + 1, 0, none⟩ = some (.int .i64 at') ∧ V.cell? ⟨w.heap.size + 1 + 1, 0, none⟩ = some (.slice ad nd cd) ∧ V.cell? ⟨Bb, 0, none⟩ = some hv)
          (first | (exact hx.cells) | (exact hy.cells) | (exact hu.cells) | (exact hu2.cells))
          (first
            | (go_at_call 65
               refine (hpl _).mono ?_
               rintro e w1 ⟨rfl, hb1⟩
               have hu := hy.below hb1
               have HB1 : Hid (Below W5.heap.size W5 w1) := HBe.out.trans hb1
               clear hb1)
            | (go_at_call 66
               refine (HWk.out _ hu).mono ?_
               rintro e w2 ⟨Bs, Bl, a2, cc2, rfl, hs1, hs2, hs3, hs4, hs5, hs6, hb2⟩
               have hu2 := hu.below hb2
               have HW2 : Hid (Below W5.heap.size W5 w2 ∧ w2.heap[Bs]? = some (.cells #[.int .i64 at', .int .i64 (at' + nd)] 38 (0, 0)) ∧ w2.heap[Bl]? = some (.cells #[.slice a2 (wth b.l (at', at' + (nd : Int))).length cc2] 59 (0, 0)) ∧ SOwn w2 W5.heap.size (.slice a2 (wth b.l (at', at' + (nd : Int))).length cc2) (wth b.l (at', at' + (nd : Int))) ∧ W5.heap.size ≤ Bs ∧ W5.heap.size ≤ Bl) := ⟨HB1.out.trans (hb2.mono HB1.out.size), hs1, hs2, hs3.base HB1.out.size, Nat.le_trans HB1.out.size hs4, Nat.le_trans HB1.out.size hs5⟩
               clear hs1 hs2 hs3 hs4 hs5 hs6 hb2))
        all_goals (
          go_wp2_with fail
          go_meet
          exact ⟨Bs, Bl, a2, cc2, rfl, HW2⟩)
      case rest =>
        obtain ⟨Bs, Bl, a2, cc2, rfl, HW2⟩ := hcut
        obtain ⟨W6, rfl⟩ : ∃ W6, W6 = wc := ⟨_, rfl⟩
        clear hpl HWk
        go_wp2_with fail
        obtain ⟨hw0, hw1, hw2, hw3, hw4, hw5⟩ := HW2.out
        have hBsl : Bs < W6.heap.size := (Array.getElem?_eq_some_iff.1 hw1).1
        have hs6 := hw0.size
        have HKl : Hid (∀ k, (∃ x, a2 = some x ∧ x.block = k) → W5.heap.size ≤ k ∧ k < W6.heap.size) := by
          rintro k ⟨x, rfl, rfl⟩
          exact hw3.lt _ rfl
        have HT6 : Hid (TP w Bb hv (.slice ab b.bs.length cpb0) at' (.slice ad nd cd) base gb cpb W6) := HTP.out.below hw0
        have hgb5 := HTP.out.lt
        have hJ0 : TJ gb cpb zs at' base W6 [] W6 := ⟨HT6.out.gr, fun _ _ _ => rfl, Nat.le_refl _, Ox.refl _⟩
        have hcl : pc (at' + nd) at' (wth b.l (at', at' + (nd : Int))) = pc (at' + nd) at' b.l := pc_within
        have hll : (wth b.l (at', at' + (nd : Int))).length ≤ 1048576 := by have := len_true (hi := at' + nd) (l := b.l) (p := at'); have := HB.out.ok.set.1; show (pick true (pc (at' + nd) at' b.l)).length ≤ _; omega
        have hseq := piecesK_mem (n - 1) (by omega) Bs Bl (fun k => ∃ x, a2 = some x ∧ x.block = k) a2 cc2 (wth b.l (at', at' + (nd : Int))) at' (at' + nd) hll W6 hw1 (cell_of_one hw2) (SOwn.spK2 hw3)
        rw [hcl] at hseq
        have HW1 : Hid (W6.heap[Bs]? = some (.cells #[.int .i64 at', .int .i64 (at' + nd)] 38 (0, 0)) ∧ W5.heap.size ≤ Bs) := ⟨hw1, hw4⟩
        clear hcl hll hw2 hw3 hw1 HTP HW2 hw0
        refine (wpIn_wide (n := n)).1 ?_
        refine wpIn_rangeFunc_ownH rfl h1 (gf := 70) (lb := #[.pointer (some ⟨Bs, 0, none⟩), .pointer (some ⟨Bl, 0, none⟩)]) rfl trivial (enters_of Tryd.func70 (by kernel_rfl) rfl)
          hseq KpK.trans (kpK_put (N := W6.heap.size) (fun k hk => (HKl.out k hk).2) hBsl) (Below.refl _ _) (fun _ => rfl)
          (fun pre W => TJ gb cpb zs at' base W6 (pre.map Subtype.val) W) (fun _ _ _ => False)
          (TJ.own (Nat.le_refl _)) (fun _ _ _ _ _ hs _ _ => hs)
          hJ0
          (fun x a' W => ∃ Bx, W6.heap.size ≤ Bx ∧ W.heap[Bx]? = some (.cells #[.int .i64 x.1.1.1, .int .i64 x.1.1.2] 38 (0, 0)) ∧ a' = { tmps := #[.pointer (some ⟨Bb, 0, none⟩), .int .i64 at', .slice ad nd cd, .pointer (some ⟨w.heap.size, 0, none⟩), .pointer (some ⟨w.heap.size + 1, 0, none⟩), .pointer (some ⟨w.heap.size + 1 + 1, 0, none⟩), .int .i64 (m : Int), .pointer (some ⟨Bx, 0, none⟩), .bool x.1.2, .pointer (some ⟨Bb, 0, none⟩), .pointer (some ⟨Bb, 0, none⟩), .pointer (some ⟨Bb, 2, none⟩), .bool false, .int .i64 at', .slice ad nd cd, .int .i64 (nd : Int), .int .i64 (at' + nd), .pointer (some ⟨Bb, 0, none⟩), .pointer (some ⟨Bb, 0, none⟩), .pointer (some ⟨Bb, 1, none⟩), .slice ab b.bs.length cpb0, .int .i64 (b.bs.length : Int), .int .i64 (m : Int), .int .i64 (m : Int), .bool true, .pointer (some ⟨Bb, 0, none⟩), .pointer (some ⟨Bb, 0, none⟩), .pointer (some ⟨Bb, 0, none⟩), .pointer (some ⟨Bb, 1, none⟩), .slice ab b.bs.length cpb0, .int .i64 (m : Int), .slice (some ⟨gb, 0, none⟩) (b.bs.length + m) cpb, .pointer (some ⟨Bb, 0, none⟩), .pointer (some ⟨Bb, 1, none⟩), u34, u35, u36, u37, u38, u39, u40, .func (.func 70) #[] #[.pointer (some ⟨Bs, 0, none⟩), .pointer (some ⟨Bl, 0, none⟩)], .agg #[.int .i64 x.1.1.1, .int .i64 x.1.1.2], .bool x.1.2, u44, u45, u46, u47, u48, u49, u50, u51, u52, u53, u54, u55, u56, u57, u58, u59, u60, u61], defers := [] })
          (fun x a' _ X Y row hs hg hr => by obtain ⟨Bx, h2, h3, h4⟩ := hs; exact ⟨Bx, h2, cells_keep h3 hg hr, h4⟩)
          ?assign ?body ?done ?stop
        case assign =>
          rintro l' pre x W K hGI hK
          have hlw := hGI.size
          gi_wp2
          exact hK _ _ ((KeepsOthers.alloc _ _).from _) ⟨BlK.of_below ((Below.refl _ W).alloc (Nat.le_refl _) _), Below.heap_alloc W _ _ (by omega)⟩ (hGI.alloc _) ⟨W.heap.size, hlw, heap_alloc_new' _ _, rfl⟩
        case body =>
          rintro l' pre ⟨⟨⟨x1, x2⟩, xc⟩, hx⟩ a' W hl' hr hGI ⟨Bx, hbx, hxb, rfl⟩ hlt
          have hin := pc_in HB.out.ok.set.2 _ hx
          simp only at hin
          have HGI : Hid (TJ gb cpb zs at' base W6 (pre.map Subtype.val) W) := hGI
          have HXB : Hid (W.heap[Bx]? = some (.cells #[.int .i64 x1, .int .i64 x2] 38 (0, 0))) := hxb
          clear hGI hxb hr hl'
          cases xc with
          | true =>
            gi_wp2
            refine ⟨KeepsFrom.refl _ _, KpK.refl _ _ _, ?_⟩
            have e : lay zs at' base ((pre ++ [(⟨((x1, x2), true), hx⟩ : { x : Pz // x ∈ pc (at' + nd) at' b.l })]).map Subtype.val) = lay zs at' base (pre.map Subtype.val) := by rw [List.map_append]; show lay _ _ _ (_ ++ [((x1, x2), true)]) = _; rw [lay_snoc]; simp
            exact ⟨by rw [e]; exact HGI.out.gr, HGI.out.keep, HGI.out.size, HGI.out.ox⟩
          | false =>
            have ht6 := HT6.out
            have hbig := ht6.big
            have hne := ht6.ne
            obtain ⟨rest, hgr, hcp⟩ := HGI.out.gr
            obtain ⟨gd, od, rfl, hzc⟩ : ∃ gd od, ad = some ⟨gd, od, none⟩ ∧ ∀ i, i < zs.length → w.cell? ⟨gd, od + i, none⟩ = some (.int .u8 (zs.getD i 0)) := by
              rcases HZ.out.1 with h0 | h0
              · subst h0; simp at hn1
              · exact h0
            obtain ⟨f, rfl⟩ : ∃ f : Nat, x1 = f := ⟨x1.toNat, by omega⟩
            obtain ⟨t, rfl⟩ : ∃ t : Nat, x2 = t := ⟨x2.toNat, by omega⟩
            obtain ⟨m2, hm2⟩ : ∃ m2 : Nat, (m2 : Int) = (f : Int) - at' := ⟨((f : Int) - at').toNat, by omega⟩
            have hbq := HBL.out
            have hfit : ∀ y ∈ pre.map Subtype.val, Fit base.length zs at' y.1 := fun y hy => by
              obtain ⟨⟨z, hz⟩, _, rfl⟩ := List.mem_map.mp hy
              have h3 := pc_in HB.out.ok.set.2 _ hz
              exact ⟨hat, h3.1, by show z.1.1 ≤ z.1.2; omega, by show z.1.2 ≤ _; omega, by omega⟩
            have hlb := (lay_get hfit).1
            have hdw : gd < w.heap.size := World.block_lt_of_cell? w ⟨gd, od + 0, none⟩ (hzc 0 (by omega))
            have hsp := HSP.out gd rfl
            have hgdg : gd ≠ gb := by
              rcases ht6.wh with h | h
              · exact fun e => hsp.1 (by rw [e]; exact h)
              · omega
            have hkd : W.heap[gd]? = w.heap[gd]? := (HGI.out.keep gd (by omega) hgdg).trans (ht6.keep gd hdw hsp.2 hsp.1)
            have hmm : ((zs.drop m2).take (t - f)).length = t - f := by rw [List.length_take, List.length_drop]; omega
            have hcsz : (((lay zs at' base (pre.map Subtype.val)).map (Value.int .u8) ++ rest).toArray).size = base.length + rest.length := by simp [hlb]
            gi_wp2_with fail
            refine reg9 l' _ _ (by rintro ⟨a, w, h⟩; exact h) (fun _ _ _ _ h => h) w.heap.size (w.heap.size + 1) (w.heap.size + 1 + 1) Bb Bx gb base.length cpb gd od nd cd f t m2 at' W _ (((zs.drop m2).take (t - f)).map (Value.int .u8)) (by omega) (by omega) (by omega) (by have := ht6.cp; simp only [maxLen] at this; omega) (by omega) hdc hdm (by rw [IntKind.wrap_i64]; omega) (by omega) hgr (by rw [List.length_map, hmm]) ?_ (by rw [hcsz]; omega) ?_ ⟨hne.1, hne.2.1, hne.2.2.1, hne.2.2.2, by omega⟩ ⟨cell_of_one ((HGI.out.keep _ (by omega) hne.1).trans ht6.p3), cell_of_one ((HGI.out.keep _ (by omega) hne.2.1).trans ht6.p4), cell_of_one ((HGI.out.keep _ (by omega) hne.2.2.1).trans ht6.p5), cell_of_row _ _ 1 _ _ _ ((HGI.out.keep _ (Array.getElem?_eq_some_iff.1 ht6.bb).1 hne.2.2.2).trans ht6.bb), cell_of_row _ _ 0 _ _ _ HXB.out, cell_of_row _ _ 1 _ _ _ HXB.out⟩ ?_
            · intro j v hj
              rw [List.getElem?_map, List.getElem?_take] at hj
              split at hj
              · rename_i hjt
                rw [List.getElem?_drop] at hj
                have hlz : m2 + j < zs.length := by omega
                rw [List.getElem?_eq_getElem hlz] at hj
                simp only [Option.map_some, Option.some.injEq] at hj
                have h7 := hzc (m2 + j) hlz
                rw [List.getD_eq_getElem?_getD, List.getElem?_eq_getElem hlz] at h7
                rw [← hj, ← show Value.int .u8 ((some zs[m2 + j]).getD 0) = Value.int .u8 zs[m2 + j] from rfl, ← h7]
                rw [Addr.add_lit, Nat.add_assoc]
                exact World.cell?_of_block (w' := W.drew) (a := ⟨gd, od + (m2 + j), none⟩) hkd
              · simp at hj
            · intro v hv
              obtain ⟨z, _, rfl⟩ := List.mem_map.mp hv
              rfl
            · generalize hcs' : (List.take f ((lay zs at' base (pre.map Subtype.val)).map (Value.int .u8) ++ rest).toArray.toList ++ ((zs.drop m2).take (t - f)).map (Value.int .u8) ++ List.drop (f + (((zs.drop m2).take (t - f)).map (Value.int .u8)).length) ((lay zs at' base (pre.map Subtype.val)).map (Value.int .u8) ++ rest).toArray.toList).toArray = cs'
              have hcs2 : cs' = ((over (lay zs at' base (pre.map Subtype.val)) zs at' ((f : Int), (t : Int))).map (Value.int .u8) ++ rest).toArray := by
                rw [← hcs']
                congr 1
                simp only [over]
                rw [show (((f : Int), (t : Int)) : Sp).1.toNat = f from by simp, show (((f : Int), (t : Int)) : Sp).2.toNat = t from by simp, show ((((f : Int), (t : Int)) : Sp).1 - at').toNat = m2 from by simp only; omega, show ((((f : Int), (t : Int)) : Sp).2 - (((f : Int), (t : Int)) : Sp).1).toNat = t - f from by simp only; omega, List.length_map, hmm, show f + (t - f) = t from by omega]
                simp only [List.map_append, List.map_take, List.map_drop]
                rw [List.take_append_of_le_length (by simp [hlb]; omega), List.drop_append_of_le_length (by simp [hlb]; omega)]
                simp [List.append_assoc]
              have hgg : W.grownBy (W.drew.setRow gb cs') (some gb) := ⟨rfl, rfl, rfl, by simp, fun k _ hk => setRow_other W.drew gb k cs' (fun e => hk (by rw [e]))⟩
              have hkf : KeepsOthers W (W.drew.setRow gb cs') := KeepsOthers.of_grownBy hgg fun j o ej hj => by
                cases ej; rw [hgr] at hj; cases hj; rfl
              have hBsg := HW1.out.2
              refine ⟨hkf.from _, ⟨⟨by simp, fun k hk hl => setRow_other W.drew gb k cs' (fun e => by have := (HKl.out k hk).1; omega)⟩, setRow_other W.drew gb Bs cs' (by omega)⟩, ?_⟩
              have e : lay zs at' base ((pre ++ [(⟨(((f : Int), (t : Int)), false), hx⟩ : { x : Pz // x ∈ pc (at' + nd) at' b.l })]).map Subtype.val) = over (lay zs at' base (pre.map Subtype.val)) zs at' ((f : Int), (t : Int)) := by rw [List.map_append]; show lay _ _ _ (_ ++ [(((f : Int), (t : Int)), false)]) = _; rw [lay_snoc]; simp
              exact ⟨⟨rest, by rw [e, ← hcs2]; exact setRow_heap W.drew gb _ cs' _ _ hgr, hcp⟩, fun k hk hkg => (setRow_other W.drew gb k cs' hkg).trans (HGI.out.keep k hk hkg), by have := HGI.out.size; simpa using this, HGI.out.ox⟩
        case done =>
          rintro D ys W hD hS hGI hK
          rw [hS] at hGI
          have HE : Hid (TkPost b Bb hv (.slice ab b.bs.length cpb0) at' zs w (.returned (.tuple #[])) (W.putObj D (.deferred none))) := tk_end (W5 := W) HB.out.ok HM.out hdr HBS.out HT6.out (by rw [hnz]; exact hGI) D hD
          clear hGI
          go_wp2
          change bodyPostM Fence.wide n Tryd.prog _ _ Exit.normal _ _
          refine ⟨by simp, .inl ⟨_, _, rfl, run_takeDeferred hK, ?_⟩⟩
          exact ⟨_, results_none (fn := Tryd.f51) rfl _ _ _, HE.out⟩
        case stop =>
          rintro D c' pre W _ _ h _
          exact h.elim
    · have hlk' : ¬ (0 < at' + (nd : Int) - (b.bs.length : Int)) := hlk
      obtain ⟨q, hq⟩ : ∃ q : Int, q = at' + (nd : Int) - (b.bs.length : Int) := ⟨_, rfl⟩
      have hq0 : ¬ (0 < q) := by omega
      rw [← hq]
      have HQ : Hid (q = at' + (nd : Int) - (b.bs.length : Int) ∧ at' + (nd : Int) ≤ b.bs.length) := ⟨hq, by omega⟩
      obtain ⟨gb, cpb, hsb⟩ : ∃ gb c, Value.slice ab b.bs.length cpb0 = .slice (some ⟨gb, 0, none⟩) b.bs.length c := own_some HB.out.byt (by omega)
      simp only [Value.slice.injEq, true_and] at hsb
      obtain ⟨rfl, rfl⟩ := hsb
      have HTP : Hid (TP w Bb hv (.slice (some ⟨gb, 0, none⟩) b.bs.length cpb0) at' (.slice ad nd cd) base gb cpb0 V1) := by
        have hx := HXn.out
        have hbl' := HBL.out
        have hbb : base = b.bs := by rw [HBS.out, pad, show (at' + (zs.length : Int)).toNat - b.bs.length = 0 from by omega]; simp
        have hs1 := HS1.out
        obtain ⟨hl1, ⟨hn1, _⟩ | ⟨g', cap', cur, hv1, _, hh, hnc, hcm, hcs, htk⟩⟩ := HB.out.byt
        · cases hn1
        · cases hv1
          have hgw : gb < w.heap.size := (Array.getElem?_eq_some_iff.1 hh).1
          refine ⟨hx.p3, hx.p4, hx.p5, by rw [hbb]; exact hx.bb, ⟨cur.toList.drop b.bs.length, ?_, ?_⟩, hcm, .inl rfl, fun k k0 _ _ => hx.low.block k k0, by omega, .bel hx.low⟩
          · rw [(hx.low.block gb hgw), hh, hbb]
            have : cur.toList.take b.bs.length = b.bs.map (Value.int .u8) := by rw [← htk]; congr 1; omega
            rw [← this, List.take_append_drop]
          · rw [hbb, List.length_drop, Array.length_toList]; omega
      obtain ⟨W5, hW5⟩ : ∃ W5, W5 = V1 := ⟨_, rfl⟩
      rw [← hW5] at HTP ⊢
      clear hW5 HXn HS1 hlk hlk' hq
      have hpl : ∀ V, Calls Tryd.prog 65 #[.int .i64 at', .slice ad nd cd] V fun e w' => e = .returned (.agg #[.int .i64 at', .int .i64 (at' + nd)]) ∧ Below V.heap.size V w' := fun V => places_any at' ad nd cd V ⟨hat, by omega⟩ (by omega)
      have HWk : Hid (∀ V, TP w Bb hv (.slice (some ⟨gb, 0, none⟩) b.bs.length cpb0) at' (.slice ad nd cd) base gb cpb0 V → Calls Tryd.prog 66 #[hv, .agg #[.int .i64 at', .int .i64 (at' + nd)]] V (WalkPost b.l at' (at' + nd) V)) := fun V hV => walk_any at' (at' + nd) ((SOwn.ls (base := 0) (own_same0 HB.out.hav (fun g hg => hV.keep g (HB.out.hav.lt g hg).2 (fun e => by
          subst e
          obtain ⟨_, ⟨h9, _⟩ | ⟨g', cap, cur, h9, _, hh, _⟩⟩ := HB.out.hav
          · rw [h9] at hg; cases hg
          · rw [h9] at hg; cases hg; rw [HB.out.blk] at hh; cases hh) (fun e => by
          obtain ⟨_, ⟨h9, _⟩ | ⟨g', cap, cur, h9, _, hh, _⟩⟩ := HB.out.hav
          · rw [h9] at hg; cases hg
          · rw [h9] at hg; cases hg
            obtain ⟨_, ⟨h8, _⟩ | ⟨g', cap, cur, h8, _, hh2, _⟩⟩ := HB.out.byt
            · rw [h8] at e; cases e
            · rw [h8] at e; cases e; rw [hh] at hh2; cases hh2)))) (by have := HB.out.ok.set.1; omega)) HB.out.ok.set ⟨hat, by show at' ≤ at' + (nd : Int); omega, by show at' + (nd : Int) ≤ _; omega⟩
      go_wp2_with fail
      go_cut [41] from 34 (fun q wx => ∃ (Bs Bl : Nat) (a2 : Option Addr) (cc2 : Nat), q = .func (.func 70) #[] #[.pointer (some ⟨Bs, 0, none⟩), .pointer (some ⟨Bl, 0, none⟩)] ∧ Hid (Below W5.heap.size W5 wx ∧ wx.heap[Bs]? = some (.cells #[.int .i64 at', .int .i64 (at' + nd)] 38 (0, 0)) ∧ wx.heap[Bl]? = some (.cells #[.slice a2 (wth b.l (at', at' + (nd : Int))).length cc2] 59 (0, 0)) ∧ SOwn wx W5.heap.size (.slice a2 (wth b.l (at', at' + (nd : Int))).length cc2) (wth b.l (at', at' + (nd : Int))) ∧ W5.heap.size ≤ Bs ∧ W5.heap.size ≤ Bl))
      case first =>
        have hx := HTP.out
        have hy := HTP.out.drew
        have HBe : Hid (Below W5.heap.size W5 W5.drew) := (Below.refl _ _).drew
        go_region_held3 (fun V => V.cell? ⟨w.heap.size, 0, none⟩ = some (.pointer (some ⟨Bb, 0, none⟩)) ∧ V.cell? ⟨w.heap.size + 1, 0, none⟩ = some (.int .i64 at') ∧ V.cell? ⟨w.heap.size + 1 + 1, 0, none⟩ = some (.slice ad nd cd) ∧ V.cell? ⟨Bb, 0, none⟩ = some hv)
          (first | (exact hx.cells) | (exact hy.cells) | (exact hu.cells) | (exact hu2.cells))
          (first
            | (go_at_call 65
               refine (hpl _).mono ?_
               rintro e w1 ⟨rfl, hb1⟩
               have hu := hy.below hb1
               have HB1 : Hid (Below W5.heap.size W5 w1) := HBe.out.trans hb1
               clear hb1)
            | (go_at_call 66
               refine (HWk.out _ hu).mono ?_
               rintro e w2 ⟨Bs, Bl, a2, cc2, rfl, hs1, hs2, hs3, hs4, hs5, hs6, hb2⟩
               have hu2 := hu.below hb2
               have HW2 : Hid (Below W5.heap.size W5 w2 ∧ w2.heap[Bs]? = some (.cells #[.int .i64 at', .int .i64 (at' + nd)] 38 (0, 0)) ∧ w2.heap[Bl]? = some (.cells #[.slice a2 (wth b.l (at', at' + (nd : Int))).length cc2] 59 (0, 0)) ∧ SOwn w2 W5.heap.size (.slice a2 (wth b.l (at', at' + (nd : Int))).length cc2) (wth b.l (at', at' + (nd : Int))) ∧ W5.heap.size ≤ Bs ∧ W5.heap.size ≤ Bl) := ⟨HB1.out.trans (hb2.mono HB1.out.size), hs1, hs2, hs3.base HB1.out.size, Nat.le_trans HB1.out.size hs4, Nat.le_trans HB1.out.size hs5⟩
               clear hs1 hs2 hs3 hs4 hs5 hs6 hb2))
        all_goals (
          go_wp2_with fail
          go_meet
          exact ⟨Bs, Bl, a2, cc2, rfl, HW2⟩)
      case rest =>
        obtain ⟨Bs, Bl, a2, cc2, rfl, HW2⟩ := hcut
        obtain ⟨W6, rfl⟩ : ∃ W6, W6 = wc := ⟨_, rfl⟩
        clear hpl HWk
        go_wp2_with fail
        obtain ⟨hw0, hw1, hw2, hw3, hw4, hw5⟩ := HW2.out
        have hBsl : Bs < W6.heap.size := (Array.getElem?_eq_some_iff.1 hw1).1
        have hs6 := hw0.size
        have HKl : Hid (∀ k, (∃ x, a2 = some x ∧ x.block = k) → W5.heap.size ≤ k ∧ k < W6.heap.size) := by
          rintro k ⟨x, rfl, rfl⟩
          exact hw3.lt _ rfl
        have HT6 : Hid (TP w Bb hv (.slice (some ⟨gb, 0, none⟩) b.bs.length cpb0) at' (.slice ad nd cd) base gb cpb0 W6) := HTP.out.below hw0
        have hgb5 := HTP.out.lt
        have hJ0 : TJ gb cpb0 zs at' base W6 [] W6 := ⟨HT6.out.gr, fun _ _ _ => rfl, Nat.le_refl _, Ox.refl _⟩
        have hcl : pc (at' + nd) at' (wth b.l (at', at' + (nd : Int))) = pc (at' + nd) at' b.l := pc_within
        have hll : (wth b.l (at', at' + (nd : Int))).length ≤ 1048576 := by have := len_true (hi := at' + nd) (l := b.l) (p := at'); have := HB.out.ok.set.1; show (pick true (pc (at' + nd) at' b.l)).length ≤ _; omega
        have hseq := piecesK_mem (n - 1) (by omega) Bs Bl (fun k => ∃ x, a2 = some x ∧ x.block = k) a2 cc2 (wth b.l (at', at' + (nd : Int))) at' (at' + nd) hll W6 hw1 (cell_of_one hw2) (SOwn.spK2 hw3)
        rw [hcl] at hseq
        have HW1 : Hid (W6.heap[Bs]? = some (.cells #[.int .i64 at', .int .i64 (at' + nd)] 38 (0, 0)) ∧ W5.heap.size ≤ Bs) := ⟨hw1, hw4⟩
        clear hcl hll hw2 hw3 hw1 HTP HW2 hw0
        refine (wpIn_wide (n := n)).1 ?_
        refine wpIn_rangeFunc_ownH rfl h1 (gf := 70) (lb := #[.pointer (some ⟨Bs, 0, none⟩), .pointer (some ⟨Bl, 0, none⟩)]) rfl trivial (enters_of Tryd.func70 (by kernel_rfl) rfl)
          hseq KpK.trans (kpK_put (N := W6.heap.size) (fun k hk => (HKl.out k hk).2) hBsl) (Below.refl _ _) (fun _ => rfl)
          (fun pre W => TJ gb cpb0 zs at' base W6 (pre.map Subtype.val) W) (fun _ _ _ => False)
          (TJ.own (Nat.le_refl _)) (fun _ _ _ _ _ hs _ _ => hs)
          hJ0
          (fun x a' W => ∃ Bx, W6.heap.size ≤ Bx ∧ W.heap[Bx]? = some (.cells #[.int .i64 x.1.1.1, .int .i64 x.1.1.2] 38 (0, 0)) ∧ a' = { tmps := #[.pointer (some ⟨Bb, 0, none⟩), .int .i64 at', .slice ad nd cd, .pointer (some ⟨w.heap.size, 0, none⟩), .pointer (some ⟨w.heap.size + 1, 0, none⟩), .pointer (some ⟨w.heap.size + 1 + 1, 0, none⟩), .int .i64 q, .pointer (some ⟨Bx, 0, none⟩), .bool x.1.2, .pointer (some ⟨Bb, 0, none⟩), .pointer (some ⟨Bb, 0, none⟩), .pointer (some ⟨Bb, 2, none⟩), .bool false, .int .i64 at', .slice ad nd cd, .int .i64 (nd : Int), .int .i64 (at' + nd), .pointer (some ⟨Bb, 0, none⟩), .pointer (some ⟨Bb, 0, none⟩), .pointer (some ⟨Bb, 1, none⟩), .slice (some ⟨gb, 0, none⟩) b.bs.length cpb0, .int .i64 (b.bs.length : Int), .int .i64 q, .int .i64 q, .bool false, undef, undef, undef, undef, undef, undef, undef, undef, undef, u34, u35, u36, u37, u38, u39, u40, .func (.func 70) #[] #[.pointer (some ⟨Bs, 0, none⟩), .pointer (some ⟨Bl, 0, none⟩)], .agg #[.int .i64 x.1.1.1, .int .i64 x.1.1.2], .bool x.1.2, u44, u45, u46, u47, u48, u49, u50, u51, u52, u53, u54, u55, u56, u57, u58, u59, u60, u61], defers := [] })
          (fun x a' _ X Y row hs hg hr => by obtain ⟨Bx, h2, h3, h4⟩ := hs; exact ⟨Bx, h2, cells_keep h3 hg hr, h4⟩)
          ?assign ?body ?done ?stop
        case assign =>
          rintro l' pre x W K hGI hK
          have hlw := hGI.size
          gi_wp2
          exact hK _ _ ((KeepsOthers.alloc _ _).from _) ⟨BlK.of_below ((Below.refl _ W).alloc (Nat.le_refl _) _), Below.heap_alloc W _ _ (by omega)⟩ (hGI.alloc _) ⟨W.heap.size, hlw, heap_alloc_new' _ _, rfl⟩
        case body =>
          rintro l' pre ⟨⟨⟨x1, x2⟩, xc⟩, hx⟩ a' W hl' hr hGI ⟨Bx, hbx, hxb, rfl⟩ hlt
          have hin := pc_in HB.out.ok.set.2 _ hx
          simp only at hin
          have HGI : Hid (TJ gb cpb0 zs at' base W6 (pre.map Subtype.val) W) := hGI
          have HXB : Hid (W.heap[Bx]? = some (.cells #[.int .i64 x1, .int .i64 x2] 38 (0, 0))) := hxb
          clear hGI hxb hr hl'
          cases xc with
          | true =>
            gi_wp2
            refine ⟨KeepsFrom.refl _ _, KpK.refl _ _ _, ?_⟩
            have e : lay zs at' base ((pre ++ [(⟨((x1, x2), true), hx⟩ : { x : Pz // x ∈ pc (at' + nd) at' b.l })]).map Subtype.val) = lay zs at' base (pre.map Subtype.val) := by rw [List.map_append]; show lay _ _ _ (_ ++ [((x1, x2), true)]) = _; rw [lay_snoc]; simp
            exact ⟨by rw [e]; exact HGI.out.gr, HGI.out.keep, HGI.out.size, HGI.out.ox⟩
          | false =>
            have ht6 := HT6.out
            have hbig := ht6.big
            have hne := ht6.ne
            obtain ⟨rest, hgr, hcp⟩ := HGI.out.gr
            obtain ⟨gd, od, rfl, hzc⟩ : ∃ gd od, ad = some ⟨gd, od, none⟩ ∧ ∀ i, i < zs.length → w.cell? ⟨gd, od + i, none⟩ = some (.int .u8 (zs.getD i 0)) := by
              rcases HZ.out.1 with h0 | h0
              · subst h0; simp at hn1
              · exact h0
            obtain ⟨f, rfl⟩ : ∃ f : Nat, x1 = f := ⟨x1.toNat, by omega⟩
            obtain ⟨t, rfl⟩ : ∃ t : Nat, x2 = t := ⟨x2.toNat, by omega⟩
            obtain ⟨m2, hm2⟩ : ∃ m2 : Nat, (m2 : Int) = (f : Int) - at' := ⟨((f : Int) - at').toNat, by omega⟩
            have hbq := HBL.out
            have hfit : ∀ y ∈ pre.map Subtype.val, Fit base.length zs at' y.1 := fun y hy => by
              obtain ⟨⟨z, hz⟩, _, rfl⟩ := List.mem_map.mp hy
              have h3 := pc_in HB.out.ok.set.2 _ hz
              exact ⟨hat, h3.1, by show z.1.1 ≤ z.1.2; omega, by show z.1.2 ≤ _; omega, by omega⟩
            have hlb := (lay_get hfit).1
            have hdw : gd < w.heap.size := World.block_lt_of_cell? w ⟨gd, od + 0, none⟩ (hzc 0 (by omega))
            have hsp := HSP.out gd rfl
            have hgdg : gd ≠ gb := by
              rcases ht6.wh with h | h
              · exact fun e => hsp.1 (by rw [e]; exact h)
              · omega
            have hkd : W.heap[gd]? = w.heap[gd]? := (HGI.out.keep gd (by omega) hgdg).trans (ht6.keep gd hdw hsp.2 hsp.1)
            have hmm : ((zs.drop m2).take (t - f)).length = t - f := by rw [List.length_take, List.length_drop]; omega
            have hcsz : (((lay zs at' base (pre.map Subtype.val)).map (Value.int .u8) ++ rest).toArray).size = base.length + rest.length := by simp [hlb]
            gi_wp2_with fail
            refine reg9 l' _ _ (by rintro ⟨a, w, h⟩; exact h) (fun _ _ _ _ h => h) w.heap.size (w.heap.size + 1) (w.heap.size + 1 + 1) Bb Bx gb base.length cpb0 gd od nd cd f t m2 at' W _ (((zs.drop m2).take (t - f)).map (Value.int .u8)) (by omega) (by omega) (by omega) (by have := ht6.cp; simp only [maxLen] at this; omega) (by omega) hdc hdm (by rw [IntKind.wrap_i64]; omega) (by omega) hgr (by rw [List.length_map, hmm]) ?_ (by rw [hcsz]; omega) ?_ ⟨hne.1, hne.2.1, hne.2.2.1, hne.2.2.2, by omega⟩ ⟨cell_of_one ((HGI.out.keep _ (by omega) hne.1).trans ht6.p3), cell_of_one ((HGI.out.keep _ (by omega) hne.2.1).trans ht6.p4), cell_of_one ((HGI.out.keep _ (by omega) hne.2.2.1).trans ht6.p5), cell_of_row _ _ 1 _ _ _ ((HGI.out.keep _ (Array.getElem?_eq_some_iff.1 ht6.bb).1 hne.2.2.2).trans ht6.bb), cell_of_row _ _ 0 _ _ _ HXB.out, cell_of_row _ _ 1 _ _ _ HXB.out⟩ ?_
            · intro j v hj
              rw [List.getElem?_map, List.getElem?_take] at hj
              split at hj
              · rename_i hjt
                rw [List.getElem?_drop] at hj
                have hlz : m2 + j < zs.length := by omega
                rw [List.getElem?_eq_getElem hlz] at hj
                simp only [Option.map_some, Option.some.injEq] at hj
                have h7 := hzc (m2 + j) hlz
                rw [List.getD_eq_getElem?_getD, List.getElem?_eq_getElem hlz] at h7
                rw [← hj, ← show Value.int .u8 ((some zs[m2 + j]).getD 0) = Value.int .u8 zs[m2 + j] from rfl, ← h7]
                rw [Addr.add_lit, Nat.add_assoc]
                exact World.cell?_of_block (w' := W.drew) (a := ⟨gd, od + (m2 + j), none⟩) hkd
              · simp at hj
            · intro v hv
              obtain ⟨z, _, rfl⟩ := List.mem_map.mp hv
              rfl
            · generalize hcs' : (List.take f ((lay zs at' base (pre.map Subtype.val)).map (Value.int .u8) ++ rest).toArray.toList ++ ((zs.drop m2).take (t - f)).map (Value.int .u8) ++ List.drop (f + (((zs.drop m2).take (t - f)).map (Value.int .u8)).length) ((lay zs at' base (pre.map Subtype.val)).map (Value.int .u8) ++ rest).toArray.toList).toArray = cs'
              have hcs2 : cs' = ((over (lay zs at' base (pre.map Subtype.val)) zs at' ((f : Int), (t : Int))).map (Value.int .u8) ++ rest).toArray := by
                rw [← hcs']
                congr 1
                simp only [over]
                rw [show (((f : Int), (t : Int)) : Sp).1.toNat = f from by simp, show (((f : Int), (t : Int)) : Sp).2.toNat = t from by simp, show ((((f : Int), (t : Int)) : Sp).1 - at').toNat = m2 from by simp only; omega, show ((((f : Int), (t : Int)) : Sp).2 - (((f : Int), (t : Int)) : Sp).1).toNat = t - f from by simp only; omega, List.length_map, hmm, show f + (t - f) = t from by omega]
                simp only [List.map_append, List.map_take, List.map_drop]
                rw [List.take_append_of_le_length (by simp [hlb]; omega), List.drop_append_of_le_length (by simp [hlb]; omega)]
                simp [List.append_assoc]
              have hgg : W.grownBy (W.drew.setRow gb cs') (some gb) := ⟨rfl, rfl, rfl, by simp, fun k _ hk => setRow_other W.drew gb k cs' (fun e => hk (by rw [e]))⟩
              have hkf : KeepsOthers W (W.drew.setRow gb cs') := KeepsOthers.of_grownBy hgg fun j o ej hj => by
                cases ej; rw [hgr] at hj; cases hj; rfl
              have hBsg := HW1.out.2
              refine ⟨hkf.from _, ⟨⟨by simp, fun k hk hl => setRow_other W.drew gb k cs' (fun e => by have := (HKl.out k hk).1; omega)⟩, setRow_other W.drew gb Bs cs' (by omega)⟩, ?_⟩
              have e : lay zs at' base ((pre ++ [(⟨(((f : Int), (t : Int)), false), hx⟩ : { x : Pz // x ∈ pc (at' + nd) at' b.l })]).map Subtype.val) = over (lay zs at' base (pre.map Subtype.val)) zs at' ((f : Int), (t : Int)) := by rw [List.map_append]; show lay _ _ _ (_ ++ [(((f : Int), (t : Int)), false)]) = _; rw [lay_snoc]; simp
              exact ⟨⟨rest, by rw [e, ← hcs2]; exact setRow_heap W.drew gb _ cs' _ _ hgr, hcp⟩, fun k hk hkg => (setRow_other W.drew gb k cs' hkg).trans (HGI.out.keep k hk hkg), by have := HGI.out.size; simpa using this, HGI.out.ox⟩
        case done =>
          rintro D ys W hD hS hGI hK
          rw [hS] at hGI
          have HE : Hid (TkPost b Bb hv (.slice (some ⟨gb, 0, none⟩) b.bs.length cpb0) at' zs w (.returned (.tuple #[])) (W.putObj D (.deferred none))) := tk_end (W5 := W) HB.out.ok HM.out hdr HBS.out HT6.out (by rw [hnz]; exact hGI) D hD
          clear hGI
          go_wp2
          change bodyPostM Fence.wide n Tryd.prog _ _ Exit.normal _ _
          refine ⟨by simp, .inl ⟨_, _, rfl, run_takeDeferred hK, ?_⟩⟩
          exact ⟨_, results_none (fn := Tryd.f51) rfl _ _ _, HE.out⟩
        case stop =>
          rintro D c' pre W _ _ h _
          exact h.elim
end Go.Proofs.YthkphihgdklbbaaDoor.C
