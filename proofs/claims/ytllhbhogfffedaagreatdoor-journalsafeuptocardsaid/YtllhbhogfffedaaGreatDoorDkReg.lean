import Derived.Test.YtllhbhogfffedaaGreatDoorDkMem
namespace Go.Proofs.YtllhbhogfffedaaGreatDoor.K
open Go.RowKit
attribute [local go_sem] Oper.semAt_some
set_option linter.unusedVariables false
set_option linter.unusedSimpArgs false

theorem info_partsD {P : Program} {t : TypeId} {z : Value} {n b : Nat} (h : (P.info? t).map (fun i => (i.zero, i.size, i.bytes)) = some (some z, n, b)) : ∃ i, P.info? t = some i ∧ i.zero = some z ∧ i.size = n ∧ i.bytes = b := by
  cases hi : P.info? t with
  | none => rw [hi] at h; cases h
  | some i => rw [hi] at h; simp at h; exact ⟨i, rfl, h.1, h.2.1, h.2.2⟩
theorem infoFile : (Tryz.prog.info? 75).map (fun i => (i.zero, i.size, i.bytes)) = some (some (.agg #[.string ⟨#[]⟩, .slice none 0 0, .int .i64 0]), 3, 48) := by kernel_rfl
theorem infoU8 : (Tryz.prog.info? 5).map (fun i => (i.zero, i.size, i.bytes)) = some (some (.int .u8 0), 1, 1) := by kernel_rfl
theorem three_newD (w : World) (a b c : Value) (t : TypeId) : ∀ j u, [a, b, c][j]? = some u → (w.alloc (.cells #[a, b, c] t)).cell? ((⟨w.heap.size, 0, none⟩ : Addr).add j) = some u := by
  intro j u hj
  match j, hj with
  | 0, hj => simp at hj; subst hj; simp [Addr.add]
  | 1, hj => simp at hj; subst hj; simp [Addr.add]
  | 2, hj => simp at hj; subst hj; simp [Addr.add]
/-- An append of what lies at an address, as one operation of a region that draws. -/
theorem app_opD {P : Program} {ops : Array Oper} {Q : Exit → Act → World → Prop} {j : Nat} {K : Act → World → Prop} {a : Act} {w : World} {o : Oper} (hj : ops[j]? = some o) (hgd : o.guard = none) (s x : Operand) (t : TypeId)
    (hop : o.op = Op.call { callee := Callee.builtin Builtin.append, args := #[s, x], argTypes := #[t, t] }) (base : Nat) (e : TypeId) (i : TypeInfo) (z : Value) (size bytes : Nat) (ht : P.underlying t = some (.slice e)) (hi : P.info? e = some i) (hz : i.zero = some z)
    (hsize : i.size = size) (hby : i.bytes = bytes) (hzs : z.cells.size = size) (hsz : 0 < size)
    (v : Value) (n : Nat) (xs : List Value) (hs : a.eval s = v) (hown : w.ownsRow base e size v n xs)
    (ad : Addr) (m c : Nat) (news : List Value) (hx : a.eval x = .slice (some ad) m c) (hl : news.length = m * size) (hnews : ∀ j u, news[j]? = some u → w.cell? (ad.add j) = some u) (h1 : ∀ u ∈ news, u.oneCell' = true)
    (h63 : n + m ≤ maxLen) (hbytes : (n + m) * bytes ≤ 140737488355328) (hbase : base ≤ w.heap.size)
    (hK : ∀ v' w', w'.ownsRow base e size v' (n + m) (xs ++ news) → w.grownBy w' v.ownBlock → (v'.ownBlock = v.ownBlock ∨ v'.ownBlock = some w.heap.size) → K (a.put o.dst v') w') : wpOp P ops Q j K a w := by
  unfold wpOp
  simp only [hj]
  have hw : Region.wanted o (yielded ops a.tmps) = true := by simp [Region.wanted, hgd]
  rw [if_pos hw]
  left
  obtain ⟨v', w', hrun, r2, r3, _, r5⟩ := run_append_own_at (P := P) w base t o.type e i z size bytes ht hi hz hsize hby hzs hsz v n xs hown ad m c news hl hnews h1 h63 hbytes hbase
  unfold Oper.wp
  simp [execOp, hop, resolve, invoke, builtin, hs, hx, hrun, Result.andThen]
  exact hK v' w' r2 r3 r5
theorem app_nilD {P : Program} {ops : Array Oper} {Q : Exit → Act → World → Prop} {j : Nat} {K : Act → World → Prop} {a : Act} {w : World} {o : Oper} (hj : ops[j]? = some o) (hgd : o.guard = none) (s x : Operand) (t : TypeId)
    (hop : o.op = Op.call { callee := Callee.builtin Builtin.append, args := #[s, x], argTypes := #[t, t] }) (base : Nat) (e : TypeId) (i : TypeInfo) (size : Nat) (ht : P.underlying t = some (.slice e)) (hi : P.info? e = some i)
    (v : Value) (n : Nat) (xs : List Value) (hs : a.eval s = v) (hown : w.ownsRow base e size v n xs) (hx : a.eval x = .slice none 0 0) (hK : K (a.put o.dst v) w) : wpOp P ops Q j K a w := by
  unfold wpOp
  simp only [hj]
  have hw : Region.wanted o (yielded ops a.tmps) = true := by simp [Region.wanted, hgd]
  rw [if_pos hw]
  left
  have hrun := run_append_owned_none (P := P) (w := w) base t o.type e i size ht hi v n xs hown
  unfold Oper.wp
  simp [execOp, hop, resolve, invoke, builtin, hs, hx, hrun, Result.andThen]
  exact hK
theorem lies_news {w : World} {ad : Addr} {zs : List Int} (h : Lies .u8 w (some ad) zs) : ∀ j u, (zs.map (Value.int .u8))[j]? = some u → w.cell? (ad.add j) = some u := by
  intro j u hj
  rw [List.getElem?_map] at hj
  rcases h with rfl | ⟨b, off, e, hc⟩
  · simp at hj
  · cases e
    have hl : j < zs.length := by
      rcases Nat.lt_or_ge j zs.length with q | q
      · exact q
      · rw [List.getElem?_eq_none q] at hj; cases hj
    rw [List.getElem?_eq_getElem hl] at hj
    simp at hj
    subst hj
    have := hc j hl
    rw [List.getD_eq_getElem?_getD, List.getElem?_eq_getElem hl] at this
    have e2 : (⟨b, off, none⟩ : Addr).add j = ⟨b, off + j, none⟩ := by unfold Addr.add; split <;> simp_all
    rw [e2]
    exact this
/-- An append of bytes that lie anywhere, as one operation of a region that draws. -/
theorem appB_opD {ops : Array Oper} {Q : Exit → Act → World → Prop} {j : Nat} {K : Act → World → Prop} {a : Act} {w : World} {o : Oper} (hj : ops[j]? = some o) (hgd : o.guard = none) (s x : Operand)
    (hop : o.op = Op.call { callee := Callee.builtin Builtin.append, args := #[s, x], argTypes := #[35, 35] })
    (v : Value) (n : Nat) (xs : List Value) (hs : a.eval s = v) (hown : w.ownsRow 0 5 1 v n xs)
    (ab : Option Addr) (nb cb : Nat) (zs : List Int) (hx : a.eval x = .slice ab nb cb) (hl : zs.length = nb) (hz : Lies .u8 w ab zs) (hnn : ab = none → nb = 0 ∧ cb = 0) (hb : n + nb ≤ 140737488355328)
    (hK : ∀ v' w', w'.ownsRow 0 5 1 v' (n + nb) (xs ++ zs.map (Value.int .u8)) → w.grownBy w' v.ownBlock → (v'.ownBlock = v.ownBlock ∨ v'.ownBlock = some w.heap.size) → K (a.put o.dst v') w') : wpOp Tryz.prog ops Q j K a w := by
  obtain ⟨i0, hi, hz0, hz1, hz2⟩ := info_partsD infoU8
  cases ab with
  | none =>
    obtain ⟨rfl, rfl⟩ := hnn rfl
    have hz' : zs = [] := List.eq_nil_of_length_eq_zero hl
    subst hz'
    exact app_nilD hj hgd s x 35 hop 0 5 i0 1 Tryz.underlying35 hi v n xs hs hown hx (hK v w (by simpa using hown) ⟨rfl, rfl, rfl, Nat.le_refl _, fun _ _ _ => rfl⟩ (.inl rfl))
  | some ad =>
    refine app_opD hj hgd s x 35 hop 0 5 i0 (.int .u8 0) 1 1 Tryz.underlying35 hi hz0 hz1 hz2 rfl (by decide) v n xs hs hown ad nb cb (zs.map (Value.int .u8)) hx (by simp [hl]) (lies_news hz) (fun u hu => ?_) (by unfold maxLen; omega) (by omega) (Nat.zero_le _) hK
    obtain ⟨z, _, rfl⟩ := List.mem_map.mp hu
    rfl

def regNewOps : Array Oper := #[⟨some 20, .load 46 (.tmp 0), 46, "disk.go:133", #[], none⟩,
  ⟨some 21, .nilCheck (.tmp 20), 0, "disk.go:133", #[⟨0, .data⟩], none⟩,
  ⟨some 22, .fieldAddr 102 (.tmp 21) 0, 0, "disk.go:133", #[⟨1, .data⟩], none⟩,
  ⟨some 23, .load 83 (.tmp 22), 83, "disk.go:133", #[⟨2, .data⟩], none⟩,
  ⟨some 24, .load 46 (.tmp 0), 46, "disk.go:133", #[], none⟩,
  ⟨some 25, .nilCheck (.tmp 24), 0, "disk.go:133", #[⟨4, .data⟩], none⟩,
  ⟨some 26, .fieldAddr 102 (.tmp 25) 0, 0, "disk.go:133", #[⟨5, .data⟩], none⟩,
  ⟨some 27, .load 83 (.tmp 26), 83, "disk.go:133", #[⟨6, .data⟩], none⟩,
  ⟨some 28, .nilCheck (.tmp 27), 0, "disk.go:133", #[⟨7, .data⟩], none⟩,
  ⟨some 29, .fieldAddr 85 (.tmp 28) 0, 0, "disk.go:133", #[⟨8, .data⟩], none⟩,
  ⟨some 30, .load 72 (.tmp 29), 72, "disk.go:133", #[⟨9, .data⟩], none⟩,
  ⟨some 31, .load 9 (.tmp 1), 9, "disk.go:133", #[], none⟩,
  ⟨some 32, .build 75 #[(0, .tmp 31)], 75, "disk.go:133", #[⟨11, .data⟩], none⟩,
  ⟨some 33, .buildSlice 72 1 #[(0, .tmp 32)], 72, "disk.go:133", #[⟨12, .data⟩], none⟩,
  ⟨some 34, .call { callee := Callee.builtin Builtin.append, args := #[.tmp 30, .tmp 33], argTypes := #[72, 72] }, 72, "disk.go:133", #[⟨10, .data⟩, ⟨13, .data⟩], none⟩,
  ⟨some 35, .nilCheck (.tmp 23), 0, "disk.go:133", #[⟨3, .data⟩, ⟨0, .phase⟩, ⟨1, .phase⟩, ⟨2, .phase⟩, ⟨3, .phase⟩, ⟨4, .phase⟩, ⟨5, .phase⟩, ⟨6, .phase⟩, ⟨7, .phase⟩, ⟨8, .phase⟩, ⟨9, .phase⟩, ⟨10, .phase⟩, ⟨11, .phase⟩, ⟨12, .phase⟩, ⟨13, .phase⟩, ⟨14, .phase⟩], none⟩,
  ⟨some 36, .fieldAddr 85 (.tmp 35) 0, 0, "disk.go:133", #[⟨15, .data⟩, ⟨0, .phase⟩, ⟨1, .phase⟩, ⟨2, .phase⟩, ⟨3, .phase⟩, ⟨4, .phase⟩, ⟨5, .phase⟩, ⟨6, .phase⟩, ⟨7, .phase⟩, ⟨8, .phase⟩, ⟨9, .phase⟩, ⟨10, .phase⟩, ⟨11, .phase⟩, ⟨12, .phase⟩, ⟨13, .phase⟩, ⟨14, .phase⟩], none⟩,
  ⟨none, .store 72 (.tmp 36) (.tmp 34), 0, "disk.go:133", #[⟨16, .data⟩, ⟨14, .data⟩, ⟨14, .chain⟩, ⟨0, .phase⟩, ⟨1, .phase⟩, ⟨2, .phase⟩, ⟨3, .phase⟩, ⟨4, .phase⟩, ⟨5, .phase⟩, ⟨6, .phase⟩, ⟨7, .phase⟩, ⟨8, .phase⟩, ⟨9, .phase⟩, ⟨10, .phase⟩, ⟨11, .phase⟩, ⟨12, .phase⟩, ⟨13, .phase⟩, ⟨14, .phase⟩], none⟩]
set_option maxRecDepth 100000 in
set_option maxHeartbeats 4000000 in
theorem regNew (Q : Exit → Act → World → Prop) (Db Nb d x : Nat) (s : ByteArray) (af : Option Addr) (nf cf n : Nat) (bx : Array Value) (xs : List Value) {t2 t3 t4 t5 t6 t7 t8 t9 t10 t11 t12 t13 t14 t15 t16 t17 t18 t19 t20 t21 t22 t23 t24 t25 t26 t27 t28 t29 t30 t31 t32 t33 t34 t35 t36 t37 t38 t39 t40 t41 t42 t43 t44 t45 t46 t47 t48 t49 t50 t51 t52 t53 t54 t55 t56 t57 t58 t59 : Value} (W : World)
    (hown : W.ownsRow 0 75 3 (.slice af nf cf) n xs) (hn : n ≤ 1099511627777) (hB : W.heap[x]? = some (.cells bx 85 (0, 0))) (hb0' : bx[0]? = some (.slice af nf cf)) (hne : (Value.slice af nf cf).ownBlock ≠ some x)
    (hcv : ∀ V, W.drew.grownBy V (Value.slice af nf cf).ownBlock → V.cell? ⟨Db, 0, none⟩ = some (.pointer (some ⟨d, 0, none⟩)) ∧ V.cell? ⟨d, 0, none⟩ = some (.pointer (some ⟨x, 0, none⟩)) ∧ V.cell? ⟨Nb, 0, none⟩ = some (.string s)) (hcw : ∀ V, W.drew.grownBy V (Value.slice af nf cf).ownBlock → ∀ y, (V.setCell ⟨x, 0, none⟩ y).cell? ⟨Db, 0, none⟩ = some (.pointer (some ⟨d, 0, none⟩)) ∧ (V.setCell ⟨x, 0, none⟩ y).cell? ⟨d, 0, none⟩ = some (.pointer (some ⟨x, 0, none⟩)) ∧ (V.setCell ⟨x, 0, none⟩ y).cell? ⟨Nb, 0, none⟩ = some (.string s))
    (h : ∀ v' w', w'.ownsRow 0 75 3 v' (n + 1) (xs ++ [.string s, .slice none 0 0, .int .i64 0]) → W.drew.grownBy w' (Value.slice af nf cf).ownBlock → (v'.ownBlock = (Value.slice af nf cf).ownBlock ∨ ∃ g, v'.ownBlock = some g ∧ W.heap.size ≤ g) → w'.heap[x]? = some (.cells bx 85 (0, 0)) → Q .normal { tmps := (.pointer (some ⟨Db, 0, none⟩) :: .pointer (some ⟨Nb, 0, none⟩) :: t2 :: t3 :: t4 :: t5 :: t6 :: t7 :: t8 :: t9 :: t10 :: t11 :: t12 :: t13 :: t14 :: t15 :: t16 :: t17 :: t18 :: t19 :: .pointer (some ⟨d, 0, none⟩) :: .pointer (some ⟨d, 0, none⟩) :: .pointer (some ⟨d, 0, none⟩) :: .pointer (some ⟨x, 0, none⟩) :: .pointer (some ⟨d, 0, none⟩) :: .pointer (some ⟨d, 0, none⟩) :: .pointer (some ⟨d, 0, none⟩) :: .pointer (some ⟨x, 0, none⟩) :: .pointer (some ⟨x, 0, none⟩) :: .pointer (some ⟨x, 0, none⟩) :: .slice af nf cf :: .string s :: .agg #[.string s, .slice none 0 0, .int .i64 0] :: .slice (some ⟨W.heap.size, 0, none⟩) 1 1 :: v' :: .pointer (some ⟨x, 0, none⟩) :: .pointer (some ⟨x, 0, none⟩) :: t37 :: t38 :: t39 :: t40 :: t41 :: t42 :: t43 :: t44 :: t45 :: t46 :: t47 :: t48 :: t49 :: t50 :: t51 :: t52 :: t53 :: t54 :: t55 :: t56 :: t57 :: t58 :: t59 :: []).toArray, defers := [] } (w'.setCell ⟨x, 0, none⟩ v')) :
    (Code.region 3 regNewOps true).wp Tryz.prog Q { tmps := (.pointer (some ⟨Db, 0, none⟩) :: .pointer (some ⟨Nb, 0, none⟩) :: t2 :: t3 :: t4 :: t5 :: t6 :: t7 :: t8 :: t9 :: t10 :: t11 :: t12 :: t13 :: t14 :: t15 :: t16 :: t17 :: t18 :: t19 :: t20 :: t21 :: t22 :: t23 :: t24 :: t25 :: t26 :: t27 :: t28 :: t29 :: t30 :: t31 :: t32 :: t33 :: t34 :: t35 :: t36 :: t37 :: t38 :: t39 :: t40 :: t41 :: t42 :: t43 :: t44 :: t45 :: t46 :: t47 :: t48 :: t49 :: t50 :: t51 :: t52 :: t53 :: t54 :: t55 :: t56 :: t57 :: t58 :: t59 :: []).toArray, defers := [] } W := by
  refine Code.wp_mono (fun _ _ _ h => calmD_le h) ?_
  have hp : ∀ c a a' w, calmD Q (.panic c) a w → calmD Q (.panic c) a' w := fun _ _ _ _ h => h
  refine wp_region_held (S := fun V => V.cell? ⟨Db, 0, none⟩ = some (.pointer (some ⟨d, 0, none⟩)) ∧ V.cell? ⟨d, 0, none⟩ = some (.pointer (some ⟨x, 0, none⟩)) ∧ V.cell? ⟨Nb, 0, none⟩ = some (.string s)) (by kernel_rfl) ?_
  change wpAnyH _ _ _ _ _ _ _ _ W.drew
  have hS := hcv W.drew ⟨rfl, rfl, rfl, Nat.le_refl _, fun _ _ _ => rfl⟩
  have hb0 : W.drew.cell? ⟨x, 0, none⟩ = some (.slice af nf cf) := (cell_of_row _ _ 0 _ _ _ (show W.drew.heap[x]? = _ from hB)).trans hb0'
  obtain ⟨i0, hi, hz0, hz1, hz2⟩ := info_partsD infoFile
  refine wpAnyH_take (i := 0) (oi := ⟨some 20, .load 46 (.tmp 0), 46, "disk.go:133", #[], none⟩) (v := .pointer (some ⟨d, 0, none⟩)) rfl (by kernel_rfl) (by kernel_rfl) (by kernel_rfl) (fun _ _ _ h => hp _ _ _ _ h) (.inl ⟨by kernel_rfl, fun V hV => ?_⟩) hS ?_
  · have s0 := hV
    try obtain ⟨s1, s2⟩ := s0
    go_split_ands
    go_simp
  simp only [Act.put, List.setIfInBounds_toArray, List.set_cons_zero, List.set_cons_succ]
  refine wpAnyH_take (i := 1) (oi := ⟨some 21, .nilCheck (.tmp 20), 0, "disk.go:133", #[⟨0, .data⟩], none⟩) (v := .pointer (some ⟨d, 0, none⟩)) rfl (by kernel_rfl) (by kernel_rfl) (by kernel_rfl) (fun _ _ _ h => hp _ _ _ _ h) (.inl ⟨by kernel_rfl, fun V hV => ?_⟩) hS ?_
  · have s0 := hV
    try obtain ⟨s1, s2⟩ := s0
    go_split_ands
    go_simp
  simp only [Act.put, List.setIfInBounds_toArray, List.set_cons_zero, List.set_cons_succ]
  refine wpAnyH_take (i := 2) (oi := ⟨some 22, .fieldAddr 102 (.tmp 21) 0, 0, "disk.go:133", #[⟨1, .data⟩], none⟩) (v := .pointer (some ⟨d, 0, none⟩)) rfl (by kernel_rfl) (by kernel_rfl) (by kernel_rfl) (fun _ _ _ h => hp _ _ _ _ h) (.inl ⟨by kernel_rfl, fun V hV => ?_⟩) hS ?_
  · have s0 := hV
    try obtain ⟨s1, s2⟩ := s0
    go_split_ands
    go_simp
  simp only [Act.put, List.setIfInBounds_toArray, List.set_cons_zero, List.set_cons_succ]
  refine wpAnyH_take (i := 3) (oi := ⟨some 23, .load 83 (.tmp 22), 83, "disk.go:133", #[⟨2, .data⟩], none⟩) (v := .pointer (some ⟨x, 0, none⟩)) rfl (by kernel_rfl) (by kernel_rfl) (by kernel_rfl) (fun _ _ _ h => hp _ _ _ _ h) (.inl ⟨by kernel_rfl, fun V hV => ?_⟩) hS ?_
  · have s0 := hV
    try obtain ⟨s1, s2⟩ := s0
    go_split_ands
    go_simp
  simp only [Act.put, List.setIfInBounds_toArray, List.set_cons_zero, List.set_cons_succ]
  refine wpAnyH_take (i := 4) (oi := ⟨some 24, .load 46 (.tmp 0), 46, "disk.go:133", #[], none⟩) (v := .pointer (some ⟨d, 0, none⟩)) rfl (by kernel_rfl) (by kernel_rfl) (by kernel_rfl) (fun _ _ _ h => hp _ _ _ _ h) (.inl ⟨by kernel_rfl, fun V hV => ?_⟩) hS ?_
  · have s0 := hV
    try obtain ⟨s1, s2⟩ := s0
    go_split_ands
    go_simp
  simp only [Act.put, List.setIfInBounds_toArray, List.set_cons_zero, List.set_cons_succ]
  refine wpAnyH_take (i := 5) (oi := ⟨some 25, .nilCheck (.tmp 24), 0, "disk.go:133", #[⟨4, .data⟩], none⟩) (v := .pointer (some ⟨d, 0, none⟩)) rfl (by kernel_rfl) (by kernel_rfl) (by kernel_rfl) (fun _ _ _ h => hp _ _ _ _ h) (.inl ⟨by kernel_rfl, fun V hV => ?_⟩) hS ?_
  · have s0 := hV
    try obtain ⟨s1, s2⟩ := s0
    go_split_ands
    go_simp
  simp only [Act.put, List.setIfInBounds_toArray, List.set_cons_zero, List.set_cons_succ]
  refine wpAnyH_take (i := 6) (oi := ⟨some 26, .fieldAddr 102 (.tmp 25) 0, 0, "disk.go:133", #[⟨5, .data⟩], none⟩) (v := .pointer (some ⟨d, 0, none⟩)) rfl (by kernel_rfl) (by kernel_rfl) (by kernel_rfl) (fun _ _ _ h => hp _ _ _ _ h) (.inl ⟨by kernel_rfl, fun V hV => ?_⟩) hS ?_
  · have s0 := hV
    try obtain ⟨s1, s2⟩ := s0
    go_split_ands
    go_simp
  simp only [Act.put, List.setIfInBounds_toArray, List.set_cons_zero, List.set_cons_succ]
  refine wpAnyH_take (i := 7) (oi := ⟨some 27, .load 83 (.tmp 26), 83, "disk.go:133", #[⟨6, .data⟩], none⟩) (v := .pointer (some ⟨x, 0, none⟩)) rfl (by kernel_rfl) (by kernel_rfl) (by kernel_rfl) (fun _ _ _ h => hp _ _ _ _ h) (.inl ⟨by kernel_rfl, fun V hV => ?_⟩) hS ?_
  · have s0 := hV
    try obtain ⟨s1, s2⟩ := s0
    go_split_ands
    go_simp
  simp only [Act.put, List.setIfInBounds_toArray, List.set_cons_zero, List.set_cons_succ]
  refine wpAnyH_take (i := 8) (oi := ⟨some 28, .nilCheck (.tmp 27), 0, "disk.go:133", #[⟨7, .data⟩], none⟩) (v := .pointer (some ⟨x, 0, none⟩)) rfl (by kernel_rfl) (by kernel_rfl) (by kernel_rfl) (fun _ _ _ h => hp _ _ _ _ h) (.inl ⟨by kernel_rfl, fun V hV => ?_⟩) hS ?_
  · have s0 := hV
    try obtain ⟨s1, s2⟩ := s0
    go_split_ands
    go_simp
  simp only [Act.put, List.setIfInBounds_toArray, List.set_cons_zero, List.set_cons_succ]
  refine wpAnyH_take (i := 9) (oi := ⟨some 29, .fieldAddr 85 (.tmp 28) 0, 0, "disk.go:133", #[⟨8, .data⟩], none⟩) (v := .pointer (some ⟨x, 0, none⟩)) rfl (by kernel_rfl) (by kernel_rfl) (by kernel_rfl) (fun _ _ _ h => hp _ _ _ _ h) (.inl ⟨by kernel_rfl, fun V hV => ?_⟩) hS ?_
  · have s0 := hV
    try obtain ⟨s1, s2⟩ := s0
    go_split_ands
    go_simp
  simp only [Act.put, List.setIfInBounds_toArray, List.set_cons_zero, List.set_cons_succ]
  refine wpAnyH_take (i := 11) (oi := ⟨some 31, .load 9 (.tmp 1), 9, "disk.go:133", #[], none⟩) (v := .string s) rfl (by kernel_rfl) (by kernel_rfl) (by kernel_rfl) (fun _ _ _ h => hp _ _ _ _ h) (.inl ⟨by kernel_rfl, fun V hV => ?_⟩) hS ?_
  · have s0 := hV
    try obtain ⟨s1, s2⟩ := s0
    go_split_ands
    go_simp
  simp only [Act.put, List.setIfInBounds_toArray, List.set_cons_zero, List.set_cons_succ]
  refine wpAnyH_take (i := 12) (oi := ⟨some 32, .build 75 #[(0, .tmp 31)], 75, "disk.go:133", #[⟨11, .data⟩], none⟩) (v := .agg #[.string s, .slice none 0 0, .int .i64 0]) rfl (by kernel_rfl) (by kernel_rfl) (by kernel_rfl) (fun _ _ _ h => hp _ _ _ _ h) (.inl ⟨by kernel_rfl, fun V hV => ?_⟩) hS ?_
  · have s0 := hV
    try obtain ⟨s1, s2⟩ := s0
    go_split_ands
    go_simp
  simp only [Act.put, List.setIfInBounds_toArray, List.set_cons_zero, List.set_cons_succ]
  refine wpAnyH_ready (rs := [10, 13]) (by kernel_rfl) (by simp) ?_
  refine (AllReadyH.cons (o := ⟨some 30, .load 72 (.tmp 29), 72, "disk.go:133", #[⟨9, .data⟩], none⟩) rfl (fun K hK => ?_) (AllReadyH.cons (o := ⟨some 33, .buildSlice 72 1 #[(0, .tmp 32)], 72, "disk.go:133", #[⟨12, .data⟩], none⟩) rfl (fun K hK => ?_) AllReadyH.nil))
  · go_simp
    refine hK.out _ _ hS (fun _ => ?_)
    clear hK K
    try simp only [Act.put, List.setIfInBounds_toArray, List.set_cons_zero, List.set_cons_succ]
    refine wpAnyH_ready (rs := [13]) (by kernel_rfl) (by simp) ?_
    refine (AllReadyH.cons (o := ⟨some 33, .buildSlice 72 1 #[(0, .tmp 32)], 72, "disk.go:133", #[⟨12, .data⟩], none⟩) rfl (fun K hK => ?_) AllReadyH.nil)
    go_simp
    refine hK.out _ _ (hcv (W.drew.alloc (.cells #[.string s, .slice none 0 0, .int .i64 0] 75)) (World.grownBy_alloc W.drew _ _)) (fun _ => ?_)
    clear hK K
    try simp only [Act.put, List.setIfInBounds_toArray, List.set_cons_zero, List.set_cons_succ]
    have hS1 := hcv (W.drew.alloc (.cells #[.string s, .slice none 0 0, .int .i64 0] 75)) (World.grownBy_alloc W.drew _ _)
    have hb1 : (W.alloc (.cells #[.string s, .slice none 0 0, .int .i64 0] 75)).cell? ⟨x, 0, none⟩ = some (.slice af nf cf) := (World.cell?_of_block (a := ⟨x, 0, none⟩) (Below.heap_alloc W _ x (Array.getElem?_eq_some_iff.1 hB).1)).trans hb0
    refine wpAnyH_all (rs := [14]) (by kernel_rfl) (by simp) ?_
    intro i hiX
    obtain rfl : i = 14 := by simpa using hiX
    refine app_opD (j := 14) (o := ⟨some 34, .call { callee := Callee.builtin Builtin.append, args := #[.tmp 30, .tmp 33], argTypes := #[72, 72] }, 72, "disk.go:133", #[⟨10, .data⟩, ⟨13, .data⟩], none⟩) rfl rfl (.tmp 30) (.tmp 33) 72 rfl 0 75 i0 (.agg #[.string ⟨#[]⟩, .slice none 0 0, .int .i64 0]) 3 48 Tryz.underlying72 hi hz0 hz1 hz2 rfl (by decide) (.slice af nf cf) n xs (by simp [Act.eval]) (World.ownsRow.alloc (w := W.drew) hown _) ⟨W.heap.size, 0, none⟩ 1 1 [.string s, .slice none 0 0, .int .i64 0] (by simp [Act.eval]) rfl (three_newD W.drew _ _ _ _) (by simp [Value.oneCell']) (by unfold maxLen; omega) (by omega) (Nat.zero_le _) ?_
    intro v' w' r1 r2 r3
    have hgr : W.drew.grownBy w' (Value.slice af nf cf).ownBlock := (World.grownBy_alloc W.drew _ _).trans r2
    have hS2 := hcv w' hgr
    refine ⟨hS2, ?_⟩
    have hQ' : w'.heap[x]? = some (.cells bx 85 (0, 0)) := (hgr.block x (Array.getElem?_eq_some_iff.1 hB).1 (fun e => hne e.symm)).trans hB
    have hfz : w'.frozen? ⟨x, 0, none⟩ = false := frozen_of_row _ _ 0 _ _ hQ'
    have hbv : w'.cell? ⟨x, 0, none⟩ = some (.slice af nf cf) := (cell_of_row _ _ 0 _ _ _ hQ').trans hb0'
    have hfin := h v' w' r1 hgr (r3.imp id (fun e => ⟨_, e, by simp⟩)) hQ'
    obtain ⟨a1, n1, rfl⟩ := d_shape r1
    try simp only [Act.put, List.setIfInBounds_toArray, List.set_cons_zero, List.set_cons_succ]
    refine wpAnyH_take (i := 15) (oi := ⟨some 35, .nilCheck (.tmp 23), 0, "disk.go:133", #[⟨3, .data⟩, ⟨0, .phase⟩, ⟨1, .phase⟩, ⟨2, .phase⟩, ⟨3, .phase⟩, ⟨4, .phase⟩, ⟨5, .phase⟩, ⟨6, .phase⟩, ⟨7, .phase⟩, ⟨8, .phase⟩, ⟨9, .phase⟩, ⟨10, .phase⟩, ⟨11, .phase⟩, ⟨12, .phase⟩, ⟨13, .phase⟩, ⟨14, .phase⟩], none⟩) (v := .pointer (some ⟨x, 0, none⟩)) rfl (by kernel_rfl) (by kernel_rfl) (by kernel_rfl) (fun _ _ _ h => hp _ _ _ _ h) (.inl ⟨by kernel_rfl, fun V hV => ?_⟩) hS2 ?_
    · have s0 := hV
      try obtain ⟨s1, s2⟩ := s0
      go_split_ands
      go_simp
    simp only [Act.put, List.setIfInBounds_toArray, List.set_cons_zero, List.set_cons_succ]
    refine wpAnyH_take (i := 16) (oi := ⟨some 36, .fieldAddr 85 (.tmp 35) 0, 0, "disk.go:133", #[⟨15, .data⟩, ⟨0, .phase⟩, ⟨1, .phase⟩, ⟨2, .phase⟩, ⟨3, .phase⟩, ⟨4, .phase⟩, ⟨5, .phase⟩, ⟨6, .phase⟩, ⟨7, .phase⟩, ⟨8, .phase⟩, ⟨9, .phase⟩, ⟨10, .phase⟩, ⟨11, .phase⟩, ⟨12, .phase⟩, ⟨13, .phase⟩, ⟨14, .phase⟩], none⟩) (v := .pointer (some ⟨x, 0, none⟩)) rfl (by kernel_rfl) (by kernel_rfl) (by kernel_rfl) (fun _ _ _ h => hp _ _ _ _ h) (.inl ⟨by kernel_rfl, fun V hV => ?_⟩) hS2 ?_
    · have s0 := hV
      try obtain ⟨s1, s2⟩ := s0
      go_split_ands
      go_simp
    simp only [Act.put, List.setIfInBounds_toArray, List.set_cons_zero, List.set_cons_succ]
    refine wpAnyH_ready (rs := [17]) (by kernel_rfl) (by simp) ?_
    refine (AllReadyH.cons (o := ⟨none, .store 72 (.tmp 36) (.tmp 34), 0, "disk.go:133", #[⟨16, .data⟩, ⟨14, .data⟩, ⟨14, .chain⟩, ⟨0, .phase⟩, ⟨1, .phase⟩, ⟨2, .phase⟩, ⟨3, .phase⟩, ⟨4, .phase⟩, ⟨5, .phase⟩, ⟨6, .phase⟩, ⟨7, .phase⟩, ⟨8, .phase⟩, ⟨9, .phase⟩, ⟨10, .phase⟩, ⟨11, .phase⟩, ⟨12, .phase⟩, ⟨13, .phase⟩, ⟨14, .phase⟩], none⟩) rfl (fun K hK => ?_) AllReadyH.nil)
    go_simp
    refine hK.out _ _ (hcw w' hgr _) (fun _ => ?_)
    clear hK K
    try simp only [Act.put, List.setIfInBounds_toArray, List.set_cons_zero, List.set_cons_succ]
    exact wpAnyH_done (Q := calmD Q) (by kernel_rfl) hfin _
  · go_simp
    refine hK.out _ _ (hcv (W.drew.alloc (.cells #[.string s, .slice none 0 0, .int .i64 0] 75)) (World.grownBy_alloc W.drew _ _)) (fun _ => ?_)
    clear hK K
    try simp only [Act.put, List.setIfInBounds_toArray, List.set_cons_zero, List.set_cons_succ]
    have hS1 := hcv (W.drew.alloc (.cells #[.string s, .slice none 0 0, .int .i64 0] 75)) (World.grownBy_alloc W.drew _ _)
    have hb1 : (W.alloc (.cells #[.string s, .slice none 0 0, .int .i64 0] 75)).cell? ⟨x, 0, none⟩ = some (.slice af nf cf) := (World.cell?_of_block (a := ⟨x, 0, none⟩) (Below.heap_alloc W _ x (Array.getElem?_eq_some_iff.1 hB).1)).trans hb0
    refine wpAnyH_ready (rs := [10]) (by kernel_rfl) (by simp) ?_
    refine (AllReadyH.cons (o := ⟨some 30, .load 72 (.tmp 29), 72, "disk.go:133", #[⟨9, .data⟩], none⟩) rfl (fun K hK => ?_) AllReadyH.nil)
    go_simp
    refine hK.out _ _ hS1 (fun _ => ?_)
    clear hK K
    try simp only [Act.put, List.setIfInBounds_toArray, List.set_cons_zero, List.set_cons_succ]
    refine wpAnyH_all (rs := [14]) (by kernel_rfl) (by simp) ?_
    intro i hiX
    obtain rfl : i = 14 := by simpa using hiX
    refine app_opD (j := 14) (o := ⟨some 34, .call { callee := Callee.builtin Builtin.append, args := #[.tmp 30, .tmp 33], argTypes := #[72, 72] }, 72, "disk.go:133", #[⟨10, .data⟩, ⟨13, .data⟩], none⟩) rfl rfl (.tmp 30) (.tmp 33) 72 rfl 0 75 i0 (.agg #[.string ⟨#[]⟩, .slice none 0 0, .int .i64 0]) 3 48 Tryz.underlying72 hi hz0 hz1 hz2 rfl (by decide) (.slice af nf cf) n xs (by simp [Act.eval]) (World.ownsRow.alloc (w := W.drew) hown _) ⟨W.heap.size, 0, none⟩ 1 1 [.string s, .slice none 0 0, .int .i64 0] (by simp [Act.eval]) rfl (three_newD W.drew _ _ _ _) (by simp [Value.oneCell']) (by unfold maxLen; omega) (by omega) (Nat.zero_le _) ?_
    intro v' w' r1 r2 r3
    have hgr : W.drew.grownBy w' (Value.slice af nf cf).ownBlock := (World.grownBy_alloc W.drew _ _).trans r2
    have hS2 := hcv w' hgr
    refine ⟨hS2, ?_⟩
    have hQ' : w'.heap[x]? = some (.cells bx 85 (0, 0)) := (hgr.block x (Array.getElem?_eq_some_iff.1 hB).1 (fun e => hne e.symm)).trans hB
    have hfz : w'.frozen? ⟨x, 0, none⟩ = false := frozen_of_row _ _ 0 _ _ hQ'
    have hbv : w'.cell? ⟨x, 0, none⟩ = some (.slice af nf cf) := (cell_of_row _ _ 0 _ _ _ hQ').trans hb0'
    have hfin := h v' w' r1 hgr (r3.imp id (fun e => ⟨_, e, by simp⟩)) hQ'
    obtain ⟨a1, n1, rfl⟩ := d_shape r1
    try simp only [Act.put, List.setIfInBounds_toArray, List.set_cons_zero, List.set_cons_succ]
    refine wpAnyH_take (i := 15) (oi := ⟨some 35, .nilCheck (.tmp 23), 0, "disk.go:133", #[⟨3, .data⟩, ⟨0, .phase⟩, ⟨1, .phase⟩, ⟨2, .phase⟩, ⟨3, .phase⟩, ⟨4, .phase⟩, ⟨5, .phase⟩, ⟨6, .phase⟩, ⟨7, .phase⟩, ⟨8, .phase⟩, ⟨9, .phase⟩, ⟨10, .phase⟩, ⟨11, .phase⟩, ⟨12, .phase⟩, ⟨13, .phase⟩, ⟨14, .phase⟩], none⟩) (v := .pointer (some ⟨x, 0, none⟩)) rfl (by kernel_rfl) (by kernel_rfl) (by kernel_rfl) (fun _ _ _ h => hp _ _ _ _ h) (.inl ⟨by kernel_rfl, fun V hV => ?_⟩) hS2 ?_
    · have s0 := hV
      try obtain ⟨s1, s2⟩ := s0
      go_split_ands
      go_simp
    simp only [Act.put, List.setIfInBounds_toArray, List.set_cons_zero, List.set_cons_succ]
    refine wpAnyH_take (i := 16) (oi := ⟨some 36, .fieldAddr 85 (.tmp 35) 0, 0, "disk.go:133", #[⟨15, .data⟩, ⟨0, .phase⟩, ⟨1, .phase⟩, ⟨2, .phase⟩, ⟨3, .phase⟩, ⟨4, .phase⟩, ⟨5, .phase⟩, ⟨6, .phase⟩, ⟨7, .phase⟩, ⟨8, .phase⟩, ⟨9, .phase⟩, ⟨10, .phase⟩, ⟨11, .phase⟩, ⟨12, .phase⟩, ⟨13, .phase⟩, ⟨14, .phase⟩], none⟩) (v := .pointer (some ⟨x, 0, none⟩)) rfl (by kernel_rfl) (by kernel_rfl) (by kernel_rfl) (fun _ _ _ h => hp _ _ _ _ h) (.inl ⟨by kernel_rfl, fun V hV => ?_⟩) hS2 ?_
    · have s0 := hV
      try obtain ⟨s1, s2⟩ := s0
      go_split_ands
      go_simp
    simp only [Act.put, List.setIfInBounds_toArray, List.set_cons_zero, List.set_cons_succ]
    refine wpAnyH_ready (rs := [17]) (by kernel_rfl) (by simp) ?_
    refine (AllReadyH.cons (o := ⟨none, .store 72 (.tmp 36) (.tmp 34), 0, "disk.go:133", #[⟨16, .data⟩, ⟨14, .data⟩, ⟨14, .chain⟩, ⟨0, .phase⟩, ⟨1, .phase⟩, ⟨2, .phase⟩, ⟨3, .phase⟩, ⟨4, .phase⟩, ⟨5, .phase⟩, ⟨6, .phase⟩, ⟨7, .phase⟩, ⟨8, .phase⟩, ⟨9, .phase⟩, ⟨10, .phase⟩, ⟨11, .phase⟩, ⟨12, .phase⟩, ⟨13, .phase⟩, ⟨14, .phase⟩], none⟩) rfl (fun K hK => ?_) AllReadyH.nil)
    go_simp
    refine hK.out _ _ (hcw w' hgr _) (fun _ => ?_)
    clear hK K
    try simp only [Act.put, List.setIfInBounds_toArray, List.set_cons_zero, List.set_cons_succ]
    exact wpAnyH_done (Q := calmD Q) (by kernel_rfl) hfin _

def regAppOps : Array Oper := #[⟨some 37, .load 46 (.tmp 0), 46, "disk.go:135", #[], none⟩,
  ⟨some 38, .nilCheck (.tmp 37), 0, "disk.go:135", #[⟨0, .data⟩], none⟩,
  ⟨some 39, .fieldAddr 102 (.tmp 38) 0, 0, "disk.go:135", #[⟨1, .data⟩], none⟩,
  ⟨some 40, .load 83 (.tmp 39), 83, "disk.go:135", #[⟨2, .data⟩], none⟩,
  ⟨some 41, .nilCheck (.tmp 40), 0, "disk.go:135", #[⟨3, .data⟩], none⟩,
  ⟨some 42, .fieldAddr 85 (.tmp 41) 0, 0, "disk.go:135", #[⟨4, .data⟩], none⟩,
  ⟨some 43, .load 72 (.tmp 42), 72, "disk.go:135", #[⟨5, .data⟩], none⟩,
  ⟨some 44, .move (.tmp 3), 3, "disk.go:135", #[], none⟩,
  ⟨some 45, .load 46 (.tmp 0), 46, "disk.go:135", #[], none⟩,
  ⟨some 46, .nilCheck (.tmp 45), 0, "disk.go:135", #[⟨8, .data⟩], none⟩,
  ⟨some 47, .fieldAddr 102 (.tmp 46) 0, 0, "disk.go:135", #[⟨9, .data⟩], none⟩,
  ⟨some 48, .load 83 (.tmp 47), 83, "disk.go:135", #[⟨10, .data⟩], none⟩,
  ⟨some 49, .nilCheck (.tmp 48), 0, "disk.go:135", #[⟨11, .data⟩], none⟩,
  ⟨some 50, .fieldAddr 85 (.tmp 49) 0, 0, "disk.go:135", #[⟨12, .data⟩], none⟩,
  ⟨some 51, .load 72 (.tmp 50), 72, "disk.go:135", #[⟨13, .data⟩], none⟩,
  ⟨some 52, .move (.tmp 3), 3, "disk.go:135", #[], none⟩,
  ⟨some 53, .indexAddr 72 (.tmp 51) (.tmp 52), 0, "disk.go:135", #[⟨14, .data⟩, ⟨15, .data⟩], none⟩,
  ⟨some 54, .fieldAddr 75 (.tmp 53) 1, 0, "disk.go:135", #[⟨16, .data⟩], none⟩,
  ⟨some 55, .load 35 (.tmp 54), 35, "disk.go:135", #[⟨17, .data⟩], none⟩,
  ⟨some 56, .load 35 (.tmp 2), 35, "disk.go:135", #[], none⟩,
  ⟨some 57, .call { callee := Callee.builtin Builtin.append, args := #[.tmp 55, .tmp 56], argTypes := #[35, 35] }, 35, "disk.go:135", #[⟨18, .data⟩, ⟨19, .data⟩], none⟩,
  ⟨some 58, .indexAddr 72 (.tmp 43) (.tmp 44), 0, "disk.go:135", #[⟨6, .data⟩, ⟨7, .data⟩, ⟨0, .phase⟩, ⟨1, .phase⟩, ⟨2, .phase⟩, ⟨3, .phase⟩, ⟨4, .phase⟩, ⟨5, .phase⟩, ⟨6, .phase⟩, ⟨7, .phase⟩, ⟨8, .phase⟩, ⟨9, .phase⟩, ⟨10, .phase⟩, ⟨11, .phase⟩, ⟨12, .phase⟩, ⟨13, .phase⟩, ⟨14, .phase⟩, ⟨15, .phase⟩, ⟨16, .phase⟩, ⟨17, .phase⟩, ⟨18, .phase⟩, ⟨19, .phase⟩, ⟨20, .phase⟩], none⟩,
  ⟨some 59, .fieldAddr 75 (.tmp 58) 1, 0, "disk.go:135", #[⟨21, .data⟩, ⟨0, .phase⟩, ⟨1, .phase⟩, ⟨2, .phase⟩, ⟨3, .phase⟩, ⟨4, .phase⟩, ⟨5, .phase⟩, ⟨6, .phase⟩, ⟨7, .phase⟩, ⟨8, .phase⟩, ⟨9, .phase⟩, ⟨10, .phase⟩, ⟨11, .phase⟩, ⟨12, .phase⟩, ⟨13, .phase⟩, ⟨14, .phase⟩, ⟨15, .phase⟩, ⟨16, .phase⟩, ⟨17, .phase⟩, ⟨18, .phase⟩, ⟨19, .phase⟩, ⟨20, .phase⟩], none⟩,
  ⟨none, .store 35 (.tmp 59) (.tmp 57), 0, "disk.go:135", #[⟨22, .data⟩, ⟨20, .data⟩, ⟨20, .chain⟩, ⟨0, .phase⟩, ⟨1, .phase⟩, ⟨2, .phase⟩, ⟨3, .phase⟩, ⟨4, .phase⟩, ⟨5, .phase⟩, ⟨6, .phase⟩, ⟨7, .phase⟩, ⟨8, .phase⟩, ⟨9, .phase⟩, ⟨10, .phase⟩, ⟨11, .phase⟩, ⟨12, .phase⟩, ⟨13, .phase⟩, ⟨14, .phase⟩, ⟨15, .phase⟩, ⟨16, .phase⟩, ⟨17, .phase⟩, ⟨18, .phase⟩, ⟨19, .phase⟩, ⟨20, .phase⟩], none⟩]
set_option maxRecDepth 100000 in
set_option maxHeartbeats 4000000 in
theorem regApp (Q : Exit → Act → World → Prop) (Db Bb d x gF nf cf i : Nat) (av : Option Addr) (nv cv n : Nat) (ab : Option Addr) (nb cb : Nat) (zs : List Int) (cur : Array Value) (xs : List Value) {t1 t4 t5 t6 t7 t8 t9 t10 t11 t12 t13 t14 t15 t16 t17 t18 t19 t20 t21 t22 t23 t24 t25 t26 t27 t28 t29 t30 t31 t32 t33 t34 t35 t36 t37 t38 t39 t40 t41 t42 t43 t44 t45 t46 t47 t48 t49 t50 t51 t52 t53 t54 t55 t56 t57 t58 t59 : Value} (W : World)
    (hown : W.ownsRow 0 5 1 (.slice av nv cv) n xs) (hin : (i : Int) < (nf : Int)) (hl : zs.length = nb) (hz : Lies .u8 W.drew ab zs) (hnn : ab = none → nb = 0 ∧ cb = 0) (hb : n + nb ≤ 140737488355328) (hB : W.heap[gF]? = some (.cells cur 75 (0, 0))) (hb0' : cur[i * 3 + 1]? = some (.slice av nv cv)) (hne : (Value.slice av nv cv).ownBlock ≠ some gF)
    (hcv : ∀ V, W.drew.grownBy V (Value.slice av nv cv).ownBlock → V.cell? ⟨Db, 0, none⟩ = some (.pointer (some ⟨d, 0, none⟩)) ∧ V.cell? ⟨d, 0, none⟩ = some (.pointer (some ⟨x, 0, none⟩)) ∧ V.cell? ⟨x, 0, none⟩ = some (.slice (some ⟨gF, 0, none⟩) nf cf) ∧ V.cell? ⟨Bb, 0, none⟩ = some (.slice ab nb cb)) (hcw : ∀ V, W.drew.grownBy V (Value.slice av nv cv).ownBlock → ∀ y, (V.setCell ⟨gF, i * 3 + 1, none⟩ y).cell? ⟨Db, 0, none⟩ = some (.pointer (some ⟨d, 0, none⟩)) ∧ (V.setCell ⟨gF, i * 3 + 1, none⟩ y).cell? ⟨d, 0, none⟩ = some (.pointer (some ⟨x, 0, none⟩)) ∧ (V.setCell ⟨gF, i * 3 + 1, none⟩ y).cell? ⟨x, 0, none⟩ = some (.slice (some ⟨gF, 0, none⟩) nf cf) ∧ (V.setCell ⟨gF, i * 3 + 1, none⟩ y).cell? ⟨Bb, 0, none⟩ = some (.slice ab nb cb))
    (h : ∀ v' w', w'.ownsRow 0 5 1 v' (n + nb) (xs ++ zs.map (Value.int .u8)) → W.drew.grownBy w' (Value.slice av nv cv).ownBlock → (v'.ownBlock = (Value.slice av nv cv).ownBlock ∨ ∃ g, v'.ownBlock = some g ∧ W.heap.size ≤ g) → w'.heap[gF]? = some (.cells cur 75 (0, 0)) → Q .normal { tmps := (.pointer (some ⟨Db, 0, none⟩) :: t1 :: .pointer (some ⟨Bb, 0, none⟩) :: .int .i64 (i : Int) :: t4 :: t5 :: t6 :: t7 :: t8 :: t9 :: t10 :: t11 :: t12 :: t13 :: t14 :: t15 :: t16 :: t17 :: t18 :: t19 :: t20 :: t21 :: t22 :: t23 :: t24 :: t25 :: t26 :: t27 :: t28 :: t29 :: t30 :: t31 :: t32 :: t33 :: t34 :: t35 :: t36 :: .pointer (some ⟨d, 0, none⟩) :: .pointer (some ⟨d, 0, none⟩) :: .pointer (some ⟨d, 0, none⟩) :: .pointer (some ⟨x, 0, none⟩) :: .pointer (some ⟨x, 0, none⟩) :: .pointer (some ⟨x, 0, none⟩) :: .slice (some ⟨gF, 0, none⟩) nf cf :: .int .i64 (i : Int) :: .pointer (some ⟨d, 0, none⟩) :: .pointer (some ⟨d, 0, none⟩) :: .pointer (some ⟨d, 0, none⟩) :: .pointer (some ⟨x, 0, none⟩) :: .pointer (some ⟨x, 0, none⟩) :: .pointer (some ⟨x, 0, none⟩) :: .slice (some ⟨gF, 0, none⟩) nf cf :: .int .i64 (i : Int) :: .pointer (some ⟨gF, i * 3, none⟩) :: .pointer (some ⟨gF, i * 3 + 1, none⟩) :: .slice av nv cv :: .slice ab nb cb :: v' :: .pointer (some ⟨gF, i * 3, none⟩) :: .pointer (some ⟨gF, i * 3 + 1, none⟩) :: []).toArray, defers := [] } (w'.setCell ⟨gF, i * 3 + 1, none⟩ v')) :
    (Code.region 4 regAppOps true).wp Tryz.prog Q { tmps := (.pointer (some ⟨Db, 0, none⟩) :: t1 :: .pointer (some ⟨Bb, 0, none⟩) :: .int .i64 (i : Int) :: t4 :: t5 :: t6 :: t7 :: t8 :: t9 :: t10 :: t11 :: t12 :: t13 :: t14 :: t15 :: t16 :: t17 :: t18 :: t19 :: t20 :: t21 :: t22 :: t23 :: t24 :: t25 :: t26 :: t27 :: t28 :: t29 :: t30 :: t31 :: t32 :: t33 :: t34 :: t35 :: t36 :: t37 :: t38 :: t39 :: t40 :: t41 :: t42 :: t43 :: t44 :: t45 :: t46 :: t47 :: t48 :: t49 :: t50 :: t51 :: t52 :: t53 :: t54 :: t55 :: t56 :: t57 :: t58 :: t59 :: []).toArray, defers := [] } W := by
  refine Code.wp_mono (fun _ _ _ h => calmD_le h) ?_
  have hp : ∀ c a a' w, calmD Q (.panic c) a w → calmD Q (.panic c) a' w := fun _ _ _ _ h => h
  refine wp_region_held (S := fun V => V.cell? ⟨Db, 0, none⟩ = some (.pointer (some ⟨d, 0, none⟩)) ∧ V.cell? ⟨d, 0, none⟩ = some (.pointer (some ⟨x, 0, none⟩)) ∧ V.cell? ⟨x, 0, none⟩ = some (.slice (some ⟨gF, 0, none⟩) nf cf) ∧ V.cell? ⟨Bb, 0, none⟩ = some (.slice ab nb cb)) (by kernel_rfl) ?_
  change wpAnyH _ _ _ _ _ _ _ _ W.drew
  have hS := hcv W.drew ⟨rfl, rfl, rfl, Nat.le_refl _, fun _ _ _ => rfl⟩
  have hi0 : (0 : Int) ≤ (i : Int) := by omega
  have hb0 : W.drew.cell? ⟨gF, i * 3 + 1, none⟩ = some (.slice av nv cv) := (cell_of_row _ _ (i * 3 + 1) _ _ _ (show W.drew.heap[gF]? = _ from hB)).trans hb0'
  refine wpAnyH_take (i := 0) (oi := ⟨some 37, .load 46 (.tmp 0), 46, "disk.go:135", #[], none⟩) (v := .pointer (some ⟨d, 0, none⟩)) rfl (by kernel_rfl) (by kernel_rfl) (by kernel_rfl) (fun _ _ _ h => hp _ _ _ _ h) (.inl ⟨by kernel_rfl, fun V hV => ?_⟩) hS ?_
  · have s0 := hV
    try obtain ⟨s1, s2⟩ := s0
    go_split_ands
    go_simp
  simp only [Act.put, List.setIfInBounds_toArray, List.set_cons_zero, List.set_cons_succ]
  refine wpAnyH_take (i := 1) (oi := ⟨some 38, .nilCheck (.tmp 37), 0, "disk.go:135", #[⟨0, .data⟩], none⟩) (v := .pointer (some ⟨d, 0, none⟩)) rfl (by kernel_rfl) (by kernel_rfl) (by kernel_rfl) (fun _ _ _ h => hp _ _ _ _ h) (.inl ⟨by kernel_rfl, fun V hV => ?_⟩) hS ?_
  · have s0 := hV
    try obtain ⟨s1, s2⟩ := s0
    go_split_ands
    go_simp
  simp only [Act.put, List.setIfInBounds_toArray, List.set_cons_zero, List.set_cons_succ]
  refine wpAnyH_take (i := 2) (oi := ⟨some 39, .fieldAddr 102 (.tmp 38) 0, 0, "disk.go:135", #[⟨1, .data⟩], none⟩) (v := .pointer (some ⟨d, 0, none⟩)) rfl (by kernel_rfl) (by kernel_rfl) (by kernel_rfl) (fun _ _ _ h => hp _ _ _ _ h) (.inl ⟨by kernel_rfl, fun V hV => ?_⟩) hS ?_
  · have s0 := hV
    try obtain ⟨s1, s2⟩ := s0
    go_split_ands
    go_simp
  simp only [Act.put, List.setIfInBounds_toArray, List.set_cons_zero, List.set_cons_succ]
  refine wpAnyH_take (i := 3) (oi := ⟨some 40, .load 83 (.tmp 39), 83, "disk.go:135", #[⟨2, .data⟩], none⟩) (v := .pointer (some ⟨x, 0, none⟩)) rfl (by kernel_rfl) (by kernel_rfl) (by kernel_rfl) (fun _ _ _ h => hp _ _ _ _ h) (.inl ⟨by kernel_rfl, fun V hV => ?_⟩) hS ?_
  · have s0 := hV
    try obtain ⟨s1, s2⟩ := s0
    go_split_ands
    go_simp
  simp only [Act.put, List.setIfInBounds_toArray, List.set_cons_zero, List.set_cons_succ]
  refine wpAnyH_take (i := 4) (oi := ⟨some 41, .nilCheck (.tmp 40), 0, "disk.go:135", #[⟨3, .data⟩], none⟩) (v := .pointer (some ⟨x, 0, none⟩)) rfl (by kernel_rfl) (by kernel_rfl) (by kernel_rfl) (fun _ _ _ h => hp _ _ _ _ h) (.inl ⟨by kernel_rfl, fun V hV => ?_⟩) hS ?_
  · have s0 := hV
    try obtain ⟨s1, s2⟩ := s0
    go_split_ands
    go_simp
  simp only [Act.put, List.setIfInBounds_toArray, List.set_cons_zero, List.set_cons_succ]
  refine wpAnyH_take (i := 5) (oi := ⟨some 42, .fieldAddr 85 (.tmp 41) 0, 0, "disk.go:135", #[⟨4, .data⟩], none⟩) (v := .pointer (some ⟨x, 0, none⟩)) rfl (by kernel_rfl) (by kernel_rfl) (by kernel_rfl) (fun _ _ _ h => hp _ _ _ _ h) (.inl ⟨by kernel_rfl, fun V hV => ?_⟩) hS ?_
  · have s0 := hV
    try obtain ⟨s1, s2⟩ := s0
    go_split_ands
    go_simp
  simp only [Act.put, List.setIfInBounds_toArray, List.set_cons_zero, List.set_cons_succ]
  refine wpAnyH_take (i := 6) (oi := ⟨some 43, .load 72 (.tmp 42), 72, "disk.go:135", #[⟨5, .data⟩], none⟩) (v := .slice (some ⟨gF, 0, none⟩) nf cf) rfl (by kernel_rfl) (by kernel_rfl) (by kernel_rfl) (fun _ _ _ h => hp _ _ _ _ h) (.inl ⟨by kernel_rfl, fun V hV => ?_⟩) hS ?_
  · have s0 := hV
    try obtain ⟨s1, s2⟩ := s0
    go_split_ands
    go_simp
  simp only [Act.put, List.setIfInBounds_toArray, List.set_cons_zero, List.set_cons_succ]
  refine wpAnyH_take (i := 7) (oi := ⟨some 44, .move (.tmp 3), 3, "disk.go:135", #[], none⟩) (v := .int .i64 (i : Int)) rfl (by kernel_rfl) (by kernel_rfl) (by kernel_rfl) (fun _ _ _ h => hp _ _ _ _ h) (.inl ⟨by kernel_rfl, fun V hV => ?_⟩) hS ?_
  · have s0 := hV
    try obtain ⟨s1, s2⟩ := s0
    go_split_ands
    go_simp
  simp only [Act.put, List.setIfInBounds_toArray, List.set_cons_zero, List.set_cons_succ]
  refine wpAnyH_take (i := 8) (oi := ⟨some 45, .load 46 (.tmp 0), 46, "disk.go:135", #[], none⟩) (v := .pointer (some ⟨d, 0, none⟩)) rfl (by kernel_rfl) (by kernel_rfl) (by kernel_rfl) (fun _ _ _ h => hp _ _ _ _ h) (.inl ⟨by kernel_rfl, fun V hV => ?_⟩) hS ?_
  · have s0 := hV
    try obtain ⟨s1, s2⟩ := s0
    go_split_ands
    go_simp
  simp only [Act.put, List.setIfInBounds_toArray, List.set_cons_zero, List.set_cons_succ]
  refine wpAnyH_take (i := 9) (oi := ⟨some 46, .nilCheck (.tmp 45), 0, "disk.go:135", #[⟨8, .data⟩], none⟩) (v := .pointer (some ⟨d, 0, none⟩)) rfl (by kernel_rfl) (by kernel_rfl) (by kernel_rfl) (fun _ _ _ h => hp _ _ _ _ h) (.inl ⟨by kernel_rfl, fun V hV => ?_⟩) hS ?_
  · have s0 := hV
    try obtain ⟨s1, s2⟩ := s0
    go_split_ands
    go_simp
  simp only [Act.put, List.setIfInBounds_toArray, List.set_cons_zero, List.set_cons_succ]
  refine wpAnyH_take (i := 10) (oi := ⟨some 47, .fieldAddr 102 (.tmp 46) 0, 0, "disk.go:135", #[⟨9, .data⟩], none⟩) (v := .pointer (some ⟨d, 0, none⟩)) rfl (by kernel_rfl) (by kernel_rfl) (by kernel_rfl) (fun _ _ _ h => hp _ _ _ _ h) (.inl ⟨by kernel_rfl, fun V hV => ?_⟩) hS ?_
  · have s0 := hV
    try obtain ⟨s1, s2⟩ := s0
    go_split_ands
    go_simp
  simp only [Act.put, List.setIfInBounds_toArray, List.set_cons_zero, List.set_cons_succ]
  refine wpAnyH_take (i := 11) (oi := ⟨some 48, .load 83 (.tmp 47), 83, "disk.go:135", #[⟨10, .data⟩], none⟩) (v := .pointer (some ⟨x, 0, none⟩)) rfl (by kernel_rfl) (by kernel_rfl) (by kernel_rfl) (fun _ _ _ h => hp _ _ _ _ h) (.inl ⟨by kernel_rfl, fun V hV => ?_⟩) hS ?_
  · have s0 := hV
    try obtain ⟨s1, s2⟩ := s0
    go_split_ands
    go_simp
  simp only [Act.put, List.setIfInBounds_toArray, List.set_cons_zero, List.set_cons_succ]
  refine wpAnyH_take (i := 12) (oi := ⟨some 49, .nilCheck (.tmp 48), 0, "disk.go:135", #[⟨11, .data⟩], none⟩) (v := .pointer (some ⟨x, 0, none⟩)) rfl (by kernel_rfl) (by kernel_rfl) (by kernel_rfl) (fun _ _ _ h => hp _ _ _ _ h) (.inl ⟨by kernel_rfl, fun V hV => ?_⟩) hS ?_
  · have s0 := hV
    try obtain ⟨s1, s2⟩ := s0
    go_split_ands
    go_simp
  simp only [Act.put, List.setIfInBounds_toArray, List.set_cons_zero, List.set_cons_succ]
  refine wpAnyH_take (i := 13) (oi := ⟨some 50, .fieldAddr 85 (.tmp 49) 0, 0, "disk.go:135", #[⟨12, .data⟩], none⟩) (v := .pointer (some ⟨x, 0, none⟩)) rfl (by kernel_rfl) (by kernel_rfl) (by kernel_rfl) (fun _ _ _ h => hp _ _ _ _ h) (.inl ⟨by kernel_rfl, fun V hV => ?_⟩) hS ?_
  · have s0 := hV
    try obtain ⟨s1, s2⟩ := s0
    go_split_ands
    go_simp
  simp only [Act.put, List.setIfInBounds_toArray, List.set_cons_zero, List.set_cons_succ]
  refine wpAnyH_take (i := 14) (oi := ⟨some 51, .load 72 (.tmp 50), 72, "disk.go:135", #[⟨13, .data⟩], none⟩) (v := .slice (some ⟨gF, 0, none⟩) nf cf) rfl (by kernel_rfl) (by kernel_rfl) (by kernel_rfl) (fun _ _ _ h => hp _ _ _ _ h) (.inl ⟨by kernel_rfl, fun V hV => ?_⟩) hS ?_
  · have s0 := hV
    try obtain ⟨s1, s2⟩ := s0
    go_split_ands
    go_simp
  simp only [Act.put, List.setIfInBounds_toArray, List.set_cons_zero, List.set_cons_succ]
  refine wpAnyH_take (i := 15) (oi := ⟨some 52, .move (.tmp 3), 3, "disk.go:135", #[], none⟩) (v := .int .i64 (i : Int)) rfl (by kernel_rfl) (by kernel_rfl) (by kernel_rfl) (fun _ _ _ h => hp _ _ _ _ h) (.inl ⟨by kernel_rfl, fun V hV => ?_⟩) hS ?_
  · have s0 := hV
    try obtain ⟨s1, s2⟩ := s0
    go_split_ands
    go_simp
  simp only [Act.put, List.setIfInBounds_toArray, List.set_cons_zero, List.set_cons_succ]
  refine wpAnyH_take (i := 16) (oi := ⟨some 53, .indexAddr 72 (.tmp 51) (.tmp 52), 0, "disk.go:135", #[⟨14, .data⟩, ⟨15, .data⟩], none⟩) (v := .pointer (some ⟨gF, i * 3, none⟩)) rfl (by kernel_rfl) (by kernel_rfl) (by kernel_rfl) (fun _ _ _ h => hp _ _ _ _ h) (.inl ⟨by kernel_rfl, fun V hV => ?_⟩) hS ?_
  · have s0 := hV
    try obtain ⟨s1, s2⟩ := s0
    go_split_ands
    go_simp
  simp only [Act.put, List.setIfInBounds_toArray, List.set_cons_zero, List.set_cons_succ]
  refine wpAnyH_take (i := 17) (oi := ⟨some 54, .fieldAddr 75 (.tmp 53) 1, 0, "disk.go:135", #[⟨16, .data⟩], none⟩) (v := .pointer (some ⟨gF, i * 3 + 1, none⟩)) rfl (by kernel_rfl) (by kernel_rfl) (by kernel_rfl) (fun _ _ _ h => hp _ _ _ _ h) (.inl ⟨by kernel_rfl, fun V hV => ?_⟩) hS ?_
  · have s0 := hV
    try obtain ⟨s1, s2⟩ := s0
    go_split_ands
    go_simp
  simp only [Act.put, List.setIfInBounds_toArray, List.set_cons_zero, List.set_cons_succ]
  refine wpAnyH_take (i := 19) (oi := ⟨some 56, .load 35 (.tmp 2), 35, "disk.go:135", #[], none⟩) (v := .slice ab nb cb) rfl (by kernel_rfl) (by kernel_rfl) (by kernel_rfl) (fun _ _ _ h => hp _ _ _ _ h) (.inl ⟨by kernel_rfl, fun V hV => ?_⟩) hS ?_
  · have s0 := hV
    try obtain ⟨s1, s2⟩ := s0
    go_split_ands
    go_simp
  simp only [Act.put, List.setIfInBounds_toArray, List.set_cons_zero, List.set_cons_succ]
  refine wpAnyH_ready (rs := [18]) (by kernel_rfl) (by simp) ?_
  refine (AllReadyH.cons (o := ⟨some 55, .load 35 (.tmp 54), 35, "disk.go:135", #[⟨17, .data⟩], none⟩) rfl (fun K hK => ?_) AllReadyH.nil)
  go_simp
  refine hK.out _ _ hS (fun _ => ?_)
  clear hK K
  try simp only [Act.put, List.setIfInBounds_toArray, List.set_cons_zero, List.set_cons_succ]
  refine wpAnyH_all (rs := [20]) (by kernel_rfl) (by simp) ?_
  intro i hiX
  obtain rfl : i = 20 := by simpa using hiX
  refine appB_opD (j := 20) (o := ⟨some 57, .call { callee := Callee.builtin Builtin.append, args := #[.tmp 55, .tmp 56], argTypes := #[35, 35] }, 35, "disk.go:135", #[⟨18, .data⟩, ⟨19, .data⟩], none⟩) rfl rfl (.tmp 55) (.tmp 56) rfl (.slice av nv cv) n xs (by simp [Act.eval]) (w := W.drew) hown ab nb cb zs (by simp [Act.eval]) hl hz hnn (by omega) ?_
  intro v' w' r1 r2 r3
  have hS2 := hcv w' r2
  refine ⟨hS2, ?_⟩
  have hQ' : w'.heap[gF]? = some (.cells cur 75 (0, 0)) := (r2.block gF (Array.getElem?_eq_some_iff.1 hB).1 (fun e => hne e.symm)).trans hB
  have hfz : w'.frozen? ⟨gF, i * 3 + 1, none⟩ = false := frozen_of_row _ _ (i * 3 + 1) _ _ hQ'
  have hbv : w'.cell? ⟨gF, i * 3 + 1, none⟩ = some (.slice av nv cv) := (cell_of_row _ _ (i * 3 + 1) _ _ _ hQ').trans hb0'
  have hfin := h v' w' r1 r2 (r3.imp id (fun e => ⟨_, e, by simp⟩)) hQ'
  obtain ⟨a1, n1, rfl⟩ := d_shape r1
  try simp only [Act.put, List.setIfInBounds_toArray, List.set_cons_zero, List.set_cons_succ]
  refine wpAnyH_take (i := 21) (oi := ⟨some 58, .indexAddr 72 (.tmp 43) (.tmp 44), 0, "disk.go:135", #[⟨6, .data⟩, ⟨7, .data⟩, ⟨0, .phase⟩, ⟨1, .phase⟩, ⟨2, .phase⟩, ⟨3, .phase⟩, ⟨4, .phase⟩, ⟨5, .phase⟩, ⟨6, .phase⟩, ⟨7, .phase⟩, ⟨8, .phase⟩, ⟨9, .phase⟩, ⟨10, .phase⟩, ⟨11, .phase⟩, ⟨12, .phase⟩, ⟨13, .phase⟩, ⟨14, .phase⟩, ⟨15, .phase⟩, ⟨16, .phase⟩, ⟨17, .phase⟩, ⟨18, .phase⟩, ⟨19, .phase⟩, ⟨20, .phase⟩], none⟩) (v := .pointer (some ⟨gF, i * 3, none⟩)) rfl (by kernel_rfl) (by kernel_rfl) (by kernel_rfl) (fun _ _ _ h => hp _ _ _ _ h) (.inl ⟨by kernel_rfl, fun V hV => ?_⟩) hS2 ?_
  · have s0 := hV
    try obtain ⟨s1, s2⟩ := s0
    go_split_ands
    go_simp
  simp only [Act.put, List.setIfInBounds_toArray, List.set_cons_zero, List.set_cons_succ]
  refine wpAnyH_take (i := 22) (oi := ⟨some 59, .fieldAddr 75 (.tmp 58) 1, 0, "disk.go:135", #[⟨21, .data⟩, ⟨0, .phase⟩, ⟨1, .phase⟩, ⟨2, .phase⟩, ⟨3, .phase⟩, ⟨4, .phase⟩, ⟨5, .phase⟩, ⟨6, .phase⟩, ⟨7, .phase⟩, ⟨8, .phase⟩, ⟨9, .phase⟩, ⟨10, .phase⟩, ⟨11, .phase⟩, ⟨12, .phase⟩, ⟨13, .phase⟩, ⟨14, .phase⟩, ⟨15, .phase⟩, ⟨16, .phase⟩, ⟨17, .phase⟩, ⟨18, .phase⟩, ⟨19, .phase⟩, ⟨20, .phase⟩], none⟩) (v := .pointer (some ⟨gF, i * 3 + 1, none⟩)) rfl (by kernel_rfl) (by kernel_rfl) (by kernel_rfl) (fun _ _ _ h => hp _ _ _ _ h) (.inl ⟨by kernel_rfl, fun V hV => ?_⟩) hS2 ?_
  · have s0 := hV
    try obtain ⟨s1, s2⟩ := s0
    go_split_ands
    go_simp
  simp only [Act.put, List.setIfInBounds_toArray, List.set_cons_zero, List.set_cons_succ]
  refine wpAnyH_ready (rs := [23]) (by kernel_rfl) (by simp) ?_
  refine (AllReadyH.cons (o := ⟨none, .store 35 (.tmp 59) (.tmp 57), 0, "disk.go:135", #[⟨22, .data⟩, ⟨20, .data⟩, ⟨20, .chain⟩, ⟨0, .phase⟩, ⟨1, .phase⟩, ⟨2, .phase⟩, ⟨3, .phase⟩, ⟨4, .phase⟩, ⟨5, .phase⟩, ⟨6, .phase⟩, ⟨7, .phase⟩, ⟨8, .phase⟩, ⟨9, .phase⟩, ⟨10, .phase⟩, ⟨11, .phase⟩, ⟨12, .phase⟩, ⟨13, .phase⟩, ⟨14, .phase⟩, ⟨15, .phase⟩, ⟨16, .phase⟩, ⟨17, .phase⟩, ⟨18, .phase⟩, ⟨19, .phase⟩, ⟨20, .phase⟩], none⟩) rfl (fun K hK => ?_) AllReadyH.nil)
  go_simp
  refine hK.out _ _ (hcw w' r2 _) (fun _ => ?_)
  clear hK K
  try simp only [Act.put, List.setIfInBounds_toArray, List.set_cons_zero, List.set_cons_succ]
  exact wpAnyH_done (Q := calmD Q) (by kernel_rfl) hfin _

end Go.Proofs.YtllhbhogfffedaaGreatDoor.K
