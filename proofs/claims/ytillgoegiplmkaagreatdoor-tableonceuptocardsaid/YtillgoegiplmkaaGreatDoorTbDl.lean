import Derived.Test.YtillgoegiplmkaaGreatDoorTbCg
import Derived.Test.YtillgoegiplmkaaGreatDoorBkWlk
import Derived.Deep.CutBlock
namespace Go.Proofs.YtillgoegiplmkaaGreatDoor.B
open C
open Go.RowKit Go.Maps Go.Shelf
attribute [local go_sem] Oper.semAt_some
set_option linter.unusedVariables false
set_option linter.unusedSimpArgs false

def opsL10 : Array Oper := #[{ dst := some 32, op := Op.load 33 (Operand.tmp 6), type := 33, pos := "rows.go:132", after := #[], guard := none },
  { dst := some 33, op := Op.fieldAddr 90 (Operand.tmp 8) 0, type := 0, pos := "rows.go:132", after := #[], guard := none },
  { dst := some 34, op := Op.load 3 (Operand.tmp 33), type := 3, pos := "rows.go:132", after := #[{ on := 1, ground := Ground.data }], guard := none },
  { dst := some 35, op := Op.fieldAddr 90 (Operand.tmp 8) 1, type := 0, pos := "rows.go:132", after := #[], guard := none },
  { dst := some 36, op := Op.load 3 (Operand.tmp 35), type := 3, pos := "rows.go:132", after := #[{ on := 3, ground := Ground.data }], guard := none },
  { dst := some 37, op := Op.slice 33 (Operand.tmp 32) (some (Operand.tmp 34)) (some (Operand.tmp 36)) none, type := 33, pos := "rows.go:132", after := #[{ on := 0, ground := Ground.data }, { on := 2, ground := Ground.data }, { on := 4, ground := Ground.data }], guard := none },
  { dst := some 38, op := Op.fieldAddr 35 (Operand.tmp 3) 9, type := 0, pos := "rows.go:132", after := #[], guard := none },
  { dst := some 39, op := Op.load 33 (Operand.tmp 38), type := 33, pos := "rows.go:132", after := #[{ on := 6, ground := Ground.data }], guard := none },
  { dst := some 40, op := Op.fieldAddr 90 (Operand.tmp 8) 0, type := 0, pos := "rows.go:132", after := #[], guard := none },
  { dst := some 41, op := Op.load 3 (Operand.tmp 40), type := 3, pos := "rows.go:132", after := #[{ on := 8, ground := Ground.data }], guard := none },
  { dst := some 42, op := Op.fieldAddr 90 (Operand.tmp 5) 0, type := 0, pos := "rows.go:132", after := #[], guard := none },
  { dst := some 43, op := Op.load 3 (Operand.tmp 42), type := 3, pos := "rows.go:132", after := #[{ on := 10, ground := Ground.data }], guard := none },
  { dst := some 44, op := Op.binOp BinOp.sub 3 (Operand.tmp 41) (Operand.tmp 43) 3, type := 3, pos := "rows.go:132", after := #[{ on := 9, ground := Ground.data }, { on := 11, ground := Ground.data }], guard := none },
  { dst := some 45, op := Op.slice 33 (Operand.tmp 39) (some (Operand.tmp 44)) none none, type := 33, pos := "rows.go:132", after := #[{ on := 7, ground := Ground.data }, { on := 12, ground := Ground.data }], guard := none },
  { dst := some 46, op := Op.call { callee := Callee.builtin Builtin.copy, args := #[Operand.tmp 37, Operand.tmp 45], argTypes := #[33, 33] }, type := 3, pos := "rows.go:132", after := #[{ on := 5, ground := Ground.data }, { on := 13, ground := Ground.data }], guard := none }]
set_option maxRecDepth 100000 in
set_option maxHeartbeats 4000000 in
theorem regL10 (l n : Nat) (Q : Exit → Act → World → Prop) (hq : ¬ LetsOut Q) (hp : ∀ c a a' w, Q (.panic c) a w → Q (.panic c) a' w) (Br Ba Bd Bx gb nb cb gd od nd cd f t m : Nat) (at' : Int) {t0 t1 t2 t4 t7 t9 t10 t11 t12 t13 t14 t15 t16 t17 t18 t19 t20 t21 t22 t23 t24 t25 t26 t27 t28 t29 t30 t31 t32 t33 t34 t35 t36 t37 t38 t39 t40 t41 t42 t43 t44 t45 t46 t47 : Value} (W : World) (cur : Array Value) (cs : List Value)
    (hft : f < t) (htb : t ≤ nb) (hbc : nb ≤ cb) (hcm : cb ≤ 9223372036854775807) (hmd : m < nd) (hdc : nd ≤ cd) (hdm : cd ≤ 9223372036854775807) (hw : IntKind.i64.wrap ((f : Int) - at') = (m : Int)) (hfm : t - f ≤ nd - m)
    (hgb : W.heap[gb]? = some (.cells cur 5 (0, 0))) (hcs : cs.length = t - f) (hsrc : ∀ j v, cs[j]? = some v → W.drew.cell? ((⟨gd, od + m, none⟩ : Addr).add j) = some v) (hcur : t ≤ cur.size) (h1 : ∀ v ∈ cs, v.oneCell' = true)
    (hd : Bd ≠ gb ∧ Ba ≠ gb ∧ Br ≠ gb ∧ Bx ≠ gb)
    (hS : W.drew.cell? ⟨Bd, 0, none⟩ = some (.slice (some ⟨gb, 0, none⟩) nb cb) ∧ W.drew.cell? ⟨Ba, 0, none⟩ = some (.int .i64 at') ∧ W.drew.cell? ⟨Br, 10, none⟩ = some (.slice (some ⟨gd, od, none⟩) nd cd) ∧ W.drew.cell? ⟨Bx, 0, none⟩ = some (.int .i64 (f : Int)) ∧ W.drew.cell? ⟨Bx, 1, none⟩ = some (.int .i64 (t : Int)))
    (h : Q .normal { tmps := #[t0, t1, t2, .pointer (some ⟨Br, 0, none⟩), t4, .pointer (some ⟨Ba, 0, none⟩), .pointer (some ⟨Bd, 0, none⟩), t7, .pointer (some ⟨Bx, 0, none⟩), t9, t10, t11, t12, t13, t14, t15, t16, t17, t18, t19, t20, t21, t22, t23, t24, t25, t26, t27, t28, t29, t30, t31, .slice (some ⟨gb, 0, none⟩) nb cb, .pointer (some ⟨Bx, 0, none⟩), .int .i64 (f : Int), .pointer (some ⟨Bx, 1, none⟩), .int .i64 (t : Int), .slice (some ⟨gb, f, none⟩) (t - f) (cb - f), .pointer (some ⟨Br, 10, none⟩), .slice (some ⟨gd, od, none⟩) nd cd, .pointer (some ⟨Bx, 0, none⟩), .int .i64 (f : Int), .pointer (some ⟨Ba, 0, none⟩), .int .i64 at', .int .i64 (m : Int), .slice (some ⟨gd, od + m, none⟩) (nd - m) (cd - m), goInt ((t - f : Nat) : Int), t47], defers := [] } (W.drew.setRow gb (cur.toList.take f ++ cs ++ cur.toList.drop (f + cs.length)).toArray)) :
    (Code.region 10 opsL10 true).wpIn (Fence.wide.inRound l) n Tryz.prog Q { tmps := #[t0, t1, t2, .pointer (some ⟨Br, 0, none⟩), t4, .pointer (some ⟨Ba, 0, none⟩), .pointer (some ⟨Bd, 0, none⟩), t7, .pointer (some ⟨Bx, 0, none⟩), t9, t10, t11, t12, t13, t14, t15, t16, t17, t18, t19, t20, t21, t22, t23, t24, t25, t26, t27, t28, t29, t30, t31, t32, t33, t34, t35, t36, t37, t38, t39, t40, t41, t42, t43, t44, t45, t46, t47], defers := [] } W := by
  refine wpIn_region_round (fun V => V.cell? ⟨Bd, 0, none⟩ = some (.slice (some ⟨gb, 0, none⟩) nb cb) ∧ V.cell? ⟨Ba, 0, none⟩ = some (.int .i64 at') ∧ V.cell? ⟨Br, 10, none⟩ = some (.slice (some ⟨gd, od, none⟩) nd cd) ∧ V.cell? ⟨Bx, 0, none⟩ = some (.int .i64 (f : Int)) ∧ V.cell? ⟨Bx, 1, none⟩ = some (.int .i64 (t : Int))) (by kernel_rfl) (by kernel_rfl) hq ?_
  change wpAnyH _ _ _ _ _ _ _ _ W.drew
  have hfi : f ≤ t := by omega
  have hti : t ≤ cb := by omega
  have hne : ¬ cb = f := by omega
  have hne2 : ¬ cd = m := by omega
  have hmi : m ≤ nd := by omega
  refine wpAnyH_take (i := 0) (oi := { dst := some 32, op := Op.load 33 (Operand.tmp 6), type := 33, pos := "rows.go:132", after := #[], guard := none }) (v := .slice (some ⟨gb, 0, none⟩) nb cb) rfl (by kernel_rfl) (by kernel_rfl) (by kernel_rfl) (fun _ _ _ h => hp _ _ _ _ h) (.inl ⟨by kernel_rfl, fun V hV => ?_⟩) hS ?_
  · obtain ⟨s0, s1, s2, s3, s4⟩ := hV
    go_simp
  simp only [Act.put, List.setIfInBounds_toArray, List.set_cons_zero, List.set_cons_succ]
  refine wpAnyH_take (i := 1) (oi := { dst := some 33, op := Op.fieldAddr 90 (Operand.tmp 8) 0, type := 0, pos := "rows.go:132", after := #[], guard := none }) (v := .pointer (some ⟨Bx, 0, none⟩)) rfl (by kernel_rfl) (by kernel_rfl) (by kernel_rfl) (fun _ _ _ h => hp _ _ _ _ h) (.inl ⟨by kernel_rfl, fun V hV => ?_⟩) hS ?_
  · obtain ⟨s0, s1, s2, s3, s4⟩ := hV
    go_simp
  simp only [Act.put, List.setIfInBounds_toArray, List.set_cons_zero, List.set_cons_succ]
  refine wpAnyH_take (i := 2) (oi := { dst := some 34, op := Op.load 3 (Operand.tmp 33), type := 3, pos := "rows.go:132", after := #[{ on := 1, ground := Ground.data }], guard := none }) (v := .int .i64 (f : Int)) rfl (by kernel_rfl) (by kernel_rfl) (by kernel_rfl) (fun _ _ _ h => hp _ _ _ _ h) (.inl ⟨by kernel_rfl, fun V hV => ?_⟩) hS ?_
  · obtain ⟨s0, s1, s2, s3, s4⟩ := hV
    go_simp
  simp only [Act.put, List.setIfInBounds_toArray, List.set_cons_zero, List.set_cons_succ]
  refine wpAnyH_take (i := 3) (oi := { dst := some 35, op := Op.fieldAddr 90 (Operand.tmp 8) 1, type := 0, pos := "rows.go:132", after := #[], guard := none }) (v := .pointer (some ⟨Bx, 1, none⟩)) rfl (by kernel_rfl) (by kernel_rfl) (by kernel_rfl) (fun _ _ _ h => hp _ _ _ _ h) (.inl ⟨by kernel_rfl, fun V hV => ?_⟩) hS ?_
  · obtain ⟨s0, s1, s2, s3, s4⟩ := hV
    go_simp
  simp only [Act.put, List.setIfInBounds_toArray, List.set_cons_zero, List.set_cons_succ]
  refine wpAnyH_take (i := 4) (oi := { dst := some 36, op := Op.load 3 (Operand.tmp 35), type := 3, pos := "rows.go:132", after := #[{ on := 3, ground := Ground.data }], guard := none }) (v := .int .i64 (t : Int)) rfl (by kernel_rfl) (by kernel_rfl) (by kernel_rfl) (fun _ _ _ h => hp _ _ _ _ h) (.inl ⟨by kernel_rfl, fun V hV => ?_⟩) hS ?_
  · obtain ⟨s0, s1, s2, s3, s4⟩ := hV
    go_simp
  simp only [Act.put, List.setIfInBounds_toArray, List.set_cons_zero, List.set_cons_succ]
  refine wpAnyH_take (i := 5) (oi := { dst := some 37, op := Op.slice 33 (Operand.tmp 32) (some (Operand.tmp 34)) (some (Operand.tmp 36)) none, type := 33, pos := "rows.go:132", after := #[{ on := 0, ground := Ground.data }, { on := 2, ground := Ground.data }, { on := 4, ground := Ground.data }], guard := none }) (v := .slice (some ⟨gb, f, none⟩) (t - f) (cb - f)) rfl (by kernel_rfl) (by kernel_rfl) (by kernel_rfl) (fun _ _ _ h => hp _ _ _ _ h) (.inl ⟨by kernel_rfl, fun V hV => ?_⟩) hS ?_
  · obtain ⟨s0, s1, s2, s3, s4⟩ := hV
    go_simp
  simp only [Act.put, List.setIfInBounds_toArray, List.set_cons_zero, List.set_cons_succ]
  refine wpAnyH_take (i := 6) (oi := { dst := some 38, op := Op.fieldAddr 35 (Operand.tmp 3) 9, type := 0, pos := "rows.go:132", after := #[], guard := none }) (v := .pointer (some ⟨Br, 10, none⟩)) rfl (by kernel_rfl) (by kernel_rfl) (by kernel_rfl) (fun _ _ _ h => hp _ _ _ _ h) (.inl ⟨by kernel_rfl, fun V hV => ?_⟩) hS ?_
  · obtain ⟨s0, s1, s2, s3, s4⟩ := hV
    go_simp
  simp only [Act.put, List.setIfInBounds_toArray, List.set_cons_zero, List.set_cons_succ]
  refine wpAnyH_take (i := 7) (oi := { dst := some 39, op := Op.load 33 (Operand.tmp 38), type := 33, pos := "rows.go:132", after := #[{ on := 6, ground := Ground.data }], guard := none }) (v := .slice (some ⟨gd, od, none⟩) nd cd) rfl (by kernel_rfl) (by kernel_rfl) (by kernel_rfl) (fun _ _ _ h => hp _ _ _ _ h) (.inl ⟨by kernel_rfl, fun V hV => ?_⟩) hS ?_
  · obtain ⟨s0, s1, s2, s3, s4⟩ := hV
    go_simp
  simp only [Act.put, List.setIfInBounds_toArray, List.set_cons_zero, List.set_cons_succ]
  refine wpAnyH_take (i := 8) (oi := { dst := some 40, op := Op.fieldAddr 90 (Operand.tmp 8) 0, type := 0, pos := "rows.go:132", after := #[], guard := none }) (v := .pointer (some ⟨Bx, 0, none⟩)) rfl (by kernel_rfl) (by kernel_rfl) (by kernel_rfl) (fun _ _ _ h => hp _ _ _ _ h) (.inl ⟨by kernel_rfl, fun V hV => ?_⟩) hS ?_
  · obtain ⟨s0, s1, s2, s3, s4⟩ := hV
    go_simp
  simp only [Act.put, List.setIfInBounds_toArray, List.set_cons_zero, List.set_cons_succ]
  refine wpAnyH_take (i := 9) (oi := { dst := some 41, op := Op.load 3 (Operand.tmp 40), type := 3, pos := "rows.go:132", after := #[{ on := 8, ground := Ground.data }], guard := none }) (v := .int .i64 (f : Int)) rfl (by kernel_rfl) (by kernel_rfl) (by kernel_rfl) (fun _ _ _ h => hp _ _ _ _ h) (.inl ⟨by kernel_rfl, fun V hV => ?_⟩) hS ?_
  · obtain ⟨s0, s1, s2, s3, s4⟩ := hV
    go_simp
  simp only [Act.put, List.setIfInBounds_toArray, List.set_cons_zero, List.set_cons_succ]
  refine wpAnyH_take (i := 10) (oi := { dst := some 42, op := Op.fieldAddr 90 (Operand.tmp 5) 0, type := 0, pos := "rows.go:132", after := #[], guard := none }) (v := .pointer (some ⟨Ba, 0, none⟩)) rfl (by kernel_rfl) (by kernel_rfl) (by kernel_rfl) (fun _ _ _ h => hp _ _ _ _ h) (.inl ⟨by kernel_rfl, fun V hV => ?_⟩) hS ?_
  · obtain ⟨s0, s1, s2, s3, s4⟩ := hV
    go_simp
  simp only [Act.put, List.setIfInBounds_toArray, List.set_cons_zero, List.set_cons_succ]
  refine wpAnyH_take (i := 11) (oi := { dst := some 43, op := Op.load 3 (Operand.tmp 42), type := 3, pos := "rows.go:132", after := #[{ on := 10, ground := Ground.data }], guard := none }) (v := .int .i64 at') rfl (by kernel_rfl) (by kernel_rfl) (by kernel_rfl) (fun _ _ _ h => hp _ _ _ _ h) (.inl ⟨by kernel_rfl, fun V hV => ?_⟩) hS ?_
  · obtain ⟨s0, s1, s2, s3, s4⟩ := hV
    go_simp
  simp only [Act.put, List.setIfInBounds_toArray, List.set_cons_zero, List.set_cons_succ]
  refine wpAnyH_take (i := 12) (oi := { dst := some 44, op := Op.binOp BinOp.sub 3 (Operand.tmp 41) (Operand.tmp 43) 3, type := 3, pos := "rows.go:132", after := #[{ on := 9, ground := Ground.data }, { on := 11, ground := Ground.data }], guard := none }) (v := .int .i64 (m : Int)) rfl (by kernel_rfl) (by kernel_rfl) (by kernel_rfl) (fun _ _ _ h => hp _ _ _ _ h) (.inl ⟨by kernel_rfl, fun V hV => ?_⟩) hS ?_
  · obtain ⟨s0, s1, s2, s3, s4⟩ := hV
    go_simp
  simp only [Act.put, List.setIfInBounds_toArray, List.set_cons_zero, List.set_cons_succ]
  refine wpAnyH_take (i := 13) (oi := { dst := some 45, op := Op.slice 33 (Operand.tmp 39) (some (Operand.tmp 44)) none none, type := 33, pos := "rows.go:132", after := #[{ on := 7, ground := Ground.data }, { on := 12, ground := Ground.data }], guard := none }) (v := .slice (some ⟨gd, od + m, none⟩) (nd - m) (cd - m)) rfl (by kernel_rfl) (by kernel_rfl) (by kernel_rfl) (fun _ _ _ h => hp _ _ _ _ h) (.inl ⟨by kernel_rfl, fun V hV => ?_⟩) hS ?_
  · obtain ⟨s0, s1, s2, s3, s4⟩ := hV
    go_simp
  simp only [Act.put, List.setIfInBounds_toArray, List.set_cons_zero, List.set_cons_succ]
  refine wpAnyH_all (rs := [14]) (by kernel_rfl) (by simp) ?_
  intro i hi
  obtain rfl : i = 14 := by simpa using hi
  refine copy_op2 (i := 14) (o := { dst := some 46, op := Op.call { callee := Callee.builtin Builtin.copy, args := #[Operand.tmp 37, Operand.tmp 45], argTypes := #[33, 33] }, type := 3, pos := "rows.go:132", after := #[{ on := 5, ground := Ground.data }, { on := 13, ground := Ground.data }], guard := none }) rfl rfl (.tmp 37) (.tmp 45) 33 33 rfl 5 gb f (t - f) (cb - f) ⟨gd, od + m, none⟩ (nd - m) (cd - m) cur 5 cs (by simp [Act.eval]) (by simp [Act.eval]) Tryz.underlying33 C.Tryz.info_u8 hgb (by show cs.length = min (nd - m) (t - f); omega) hsrc (by omega) h1 ?_
  have hgne : ∀ b, b ≠ gb → ∀ (cs' : Array Value) (j : Nat), (W.drew.setRow gb cs').cell? ⟨b, j, none⟩ = W.drew.cell? ⟨b, j, none⟩ := fun b hb cs' j => cell_setRow_other _ _ _ _ hb
  obtain ⟨s0, s1, s2, s3, s4⟩ := hS
  obtain ⟨d0, d1, d2, d3⟩ := hd
  refine ⟨⟨(hgne _ d0 _ _).trans s0, (hgne _ d1 _ _).trans s1, (hgne _ d2 _ _).trans s2, (hgne _ d3 _ _).trans s3, (hgne _ d3 _ _).trans s4⟩, wpAnyH_done (by kernel_rfl) ?_ _⟩
  simp only [Act.put, List.setIfInBounds_toArray, List.set_cons_zero, List.set_cons_succ]
  rw [show goInt cs.length = goInt ((t - f : Nat) : Int) from by rw [hcs]]
  exact h


theorem wpl_append_run {P : Program} {ops : Array Oper} {rest : List Oper} {o : Oper} {a : Act} {w : World} {Q : Exit → Act → World → Prop} (hg : o.guard = none) (s x : Operand) (t u : TypeId)
    (hop : o.op = Op.call { callee := Callee.builtin Builtin.append, args := #[s, x], argTypes := #[t, u] }) (sv xv : Value) (hs : a.eval s = sv) (hx : a.eval x = xv) (v' : Value) (w' : World) (hrun : (Builtin.append_ #[t, u] o.type #[sv, xv]).run P w = .ok v' w')
    (hK : wpList P ops Q rest (a.put o.dst v') w') : wpList P ops Q (o :: rest) a w := by
  refine wpList_plain hg fun K hK' => ?_
  unfold Oper.wp
  simp [execOp, hop, resolve, invoke, builtin, hs, hx, hrun, Result.andThen]
  exact hK' _ _ hK
/-- What laid leaves. -/
def LdP (i : Ic) (r : Rc) (dv : Value) (w : World) (e : Ending) (w' : World) : Prop :=
  ∃ v, e = .returned v ∧ BO w' v (laid i r) ∧ Kl (fun g => dv.ownBlock = some g) w w' ∧ ∀ g, v.ownBlock = some g → dv.ownBlock = some g ∨ w.heap.size ≤ g
theorem Kl.bel {S : Nat → Prop} {n : Nat} {w w1 w2 : World} (h : Kl S w w1) (hb : Below n w1 w2) (hn : w.heap.size ≤ n) : Kl S w w2 := ⟨hb.os.trans h.os, hb.tape.trans h.tape, hb.output.trans h.output, Nat.le_trans h.size hb.size, fun g hg hS => (hb.block g (by omega)).trans (h.block g hg hS)⟩
theorem Kl.grown {S : Nat → Prop} {w w1 w2 : World} {row : Option Nat} (h : Kl S w w1) (hg : w1.grownBy w2 row) (hr : ∀ g, row = some g → S g ∨ w.heap.size ≤ g) : Kl S w w2 := ⟨hg.os.trans h.os, hg.tape.trans h.tape, hg.output.trans h.output, Nat.le_trans h.size hg.size, fun g hl hS => (hg.block g (Nat.lt_of_lt_of_le hl h.size) (fun e => (hr g e.symm).elim hS (fun e2 => by omega))).trans (h.block g hl hS)⟩
/-- Ahead of the loop of laid. -/
structure LQ (w : World) (i : Ic) (r : Rc) (au av da : Option Addr) (nu nv cu cv nd dc : Nat) (sv : Value) (Ba Bd gb cpb : Nat) (base : List Int) (W : World) : Prop where
  pi : W.heap[w.heap.size]? = some (.cells #[.int .i64 i.org, .int .i64 i.num, .int .i64 i.srv, .int .i64 i.red, .int .i64 i.size, .slice au nu cu, .slice av nv cv, .bool i.done, .bool i.gone, .bool i.heard, .bool i.shut, .int .i64 i.how] 63)
  pr : W.heap[w.heap.size + 1]? = some (rcO r sv (.slice da nd dc))
  pa : W.heap[Ba]? = some (.cells #[.int .i64 r.off, .int .i64 (r.off + (nd : Int))] 90 (0, 0))
  pd : W.heap[Bd]? = some (.cells #[.slice (some ⟨gb, 0, none⟩) base.length cpb] 33 (0, 0))
  gr : ∃ rest : List Value, W.heap[gb]? = some (.cells (base.map (Value.int .u8) ++ rest).toArray 5 (0, 0)) ∧ cpb = base.length + rest.length
  cp : cpb ≤ maxLen
  wh : (Value.slice av nv cv).ownBlock = some gb ∨ w.heap.size ≤ gb
  kl : Kl (fun g => (Value.slice av nv cv).ownBlock = some g) w W
  ba : w.heap.size + 2 ≤ Ba
  bd : w.heap.size + 2 ≤ Bd
theorem LQ.lt {w : World} {i : Ic} {r : Rc} {au av da : Option Addr} {nu nv cu cv nd dc : Nat} {sv : Value} {Ba Bd gb cpb : Nat} {base : List Int} {W : World} (h : LQ w i r au av da nu nv cu cv nd dc sv Ba Bd gb cpb base W) : gb < W.heap.size ∧ Ba < W.heap.size ∧ Bd < W.heap.size ∧ w.heap.size + 1 < W.heap.size := by
  obtain ⟨q, h1, _⟩ := h.gr; exact ⟨(Array.getElem?_eq_some_iff.1 h1).1, (Array.getElem?_eq_some_iff.1 h.pa).1, (Array.getElem?_eq_some_iff.1 h.pd).1, (Array.getElem?_eq_some_iff.1 h.pr).1⟩
theorem LQ.ne {w : World} {i : Ic} {r : Rc} {au av da : Option Addr} {nu nv cu cv nd dc : Nat} {sv : Value} {Ba Bd gb cpb : Nat} {base : List Int} {W : World} (h : LQ w i r au av da nu nv cu cv nd dc sv Ba Bd gb cpb base W) : w.heap.size ≠ gb ∧ w.heap.size + 1 ≠ gb ∧ Ba ≠ gb ∧ Bd ≠ gb := by
  obtain ⟨q, h1, _⟩ := h.gr
  refine ⟨fun e => ?_, fun e => ?_, fun e => ?_, fun e => ?_⟩
  · rw [← e, h.pi] at h1; simp only [Option.some.injEq, Obj.cells.injEq] at h1; exact absurd h1.2.1 (by decide)
  · rw [← e, h.pr] at h1; simp only [Option.some.injEq, Obj.cells.injEq] at h1; exact absurd h1.2.1 (by decide)
  · rw [← e, h.pa] at h1; simp only [Option.some.injEq, Obj.cells.injEq] at h1; exact absurd h1.2.1 (by decide)
  · rw [← e, h.pd] at h1; simp only [Option.some.injEq, Obj.cells.injEq] at h1; exact absurd h1.2.1 (by decide)
theorem LQ.below {w : World} {i : Ic} {r : Rc} {au av da : Option Addr} {nu nv cu cv nd dc : Nat} {sv : Value} {Ba Bd gb cpb : Nat} {base : List Int} {W W' : World} (h : LQ w i r au av da nu nv cu cv nd dc sv Ba Bd gb cpb base W) (hb : Below W.heap.size W W') : LQ w i r au av da nu nv cu cv nd dc sv Ba Bd gb cpb base W' := by
  obtain ⟨q, h1, h2⟩ := h.gr
  have hl := h.lt
  exact ⟨(hb.block _ (by omega)).trans h.pi, (hb.block _ hl.2.2.2).trans h.pr, (hb.block _ hl.2.1).trans h.pa, (hb.block _ hl.2.2.1).trans h.pd, ⟨q, (hb.block _ hl.1).trans h1, h2⟩, h.cp, h.wh, h.kl.bel hb (by omega), h.ba, h.bd⟩
/-- What the loop of laid keeps. -/
structure LJ (gb cpb : Nat) (zs : List Int) (at' : Int) (base : List Int) (W6 : World) (pre : List Pz) (W : World) : Prop where
  gr : ∃ rest : List Value, W.heap[gb]? = some (.cells ((lay zs at' base pre).map (Value.int .u8) ++ rest).toArray 5 (0, 0)) ∧ cpb = base.length + rest.length
  kl : Kl (fun g => g = gb) W6 W
theorem LJ.own {gb cpb B : Nat} {zs base : List Int} {at' : Int} {W6 : World} {L : List Pz} (hB : W6.heap.size ≤ B) : OwnFrom B (fun (pre : List { x : Pz // x ∈ L }) W => LJ gb cpb zs at' base W6 (pre.map Subtype.val) W) := fun _ X Y row hs hg hr => by
  obtain ⟨r, h1, h2⟩ := hs.gr
  exact ⟨⟨r, cells_keep h1 hg hr, h2⟩, hs.kl.grown hg (fun g e => .inr (by have := (hr g e).1; omega))⟩
theorem LJ.alloc {gb cpb : Nat} {zs base : List Int} {at' : Int} {W6 W : World} {pre : List Pz} (h : LJ gb cpb zs at' base W6 pre W) (ob : Obj) : LJ gb cpb zs at' base W6 pre (W.alloc ob) := by
  obtain ⟨r, h1, h2⟩ := h.gr
  exact ⟨⟨r, (Below.heap_alloc W ob gb (Array.getElem?_eq_some_iff.1 h1).1).trans h1, h2⟩, h.kl.bel ((Below.refl W.heap.size W).alloc (Nat.le_refl _) ob) h.kl.size⟩
theorem ld_end {i : Ic} {r : Rc} {au av da : Option Addr} {nu nv cu cv nd dc : Nat} {sv : Value} {Ba Bd gb cpb : Nat} {base : List Int} {w W6 W : World} (hb : base = pad i.data (r.off + (r.data.length : Int)).toNat) (hm : may4 r.off r.data) (hfit : ∀ x ∈ pc (r.off + (r.data.length : Int)) r.off i.hv, Fit base.length r.data r.off x.1) (hT : LQ w i r au av da nu nv cu cv nd dc sv Ba Bd gb cpb base W6) (hJ : LJ gb cpb r.data r.off base W6 (pc (r.off + (r.data.length : Int)) r.off i.hv) W) (D : Nat) (hD : W6.heap.size ≤ D) :
    LdP i r (.slice av nv cv) w (.returned (.slice (some ⟨gb, 0, none⟩) base.length cpb)) (W.putObj D (.deferred none)) := by
  have hk : laid i r = lay r.data r.off base (pc (r.off + (r.data.length : Int)) r.off i.hv) := by rw [hb]; rfl
  have hl : (lay r.data r.off base (pc (r.off + (r.data.length : Int)) r.off i.hv)).length = base.length := (lay_get hfit).1
  obtain ⟨rest, h1, h2⟩ := hJ.gr
  have hlt := hT.lt
  have hp : ∀ k, k < W6.heap.size → (W.putObj D (.deferred none)).heap[k]? = W.heap[k]? := fun k hk => World.putObj_heap_other (by omega)
  have hk2 : Kl (fun g => (Value.slice av nv cv).ownBlock = some g) w W := hT.kl.then hJ.kl (fun g hg e => by subst e; exact hT.wh.elim id (fun e2 => by omega))
  refine ⟨_, rfl, ?_, ⟨hk2.os, hk2.tape, hk2.output, by simp [World.putObj]; exact hk2.size, fun g hg hS => (hp g (by have := hT.kl.size; omega)).trans (hk2.block g hg hS)⟩, fun g e => ?_⟩
  · unfold BO
    rw [hk, hl]
    refine ⟨by simp [hl], .inr ⟨gb, cpb, _, rfl, Nat.zero_le _, (hp gb hlt.1).trans h1, by omega, hT.cp, ?_, ?_⟩⟩
    · simp [hl]; omega
    · rw [Nat.mul_one]
      have : ((lay r.data r.off base (pc (r.off + (r.data.length : Int)) r.off i.hv)).map (Value.int .u8)).length = base.length := by simp [hl]
      rw [← this]; exact List.take_left
  · have hgk : gb = g := by simpa [Value.ownBlock] using e
    subst hgk
    exact hT.wh


set_option maxRecDepth 100000 in
set_option maxHeartbeats 4000000 in
theorem laid_any {i : Ic} {r : Rc} (au av da : Option Addr) (nu nv cu cv nd dc : Nat) (sv : Value) (w : World)
    (hrd : BO w (.slice av nv cv) i.data) (hrh : SO w (.slice au nu cu) i.hv) (hset : IsSet i.hv) (hlen : i.data.length ≤ 65536) (hm : may4 r.off r.data) (hnd : r.data.length = nd) (hdc : nd ≤ dc) (hdm : dc ≤ 9223372036854775807) (hz : Lies .u8 w da r.data) (hsep : ∀ g, (Value.slice da nd dc).ownBlock = some g → (Value.slice av nv cv).ownBlock ≠ some g) (n : Nat) (hn : 9 ≤ n) :
    CallsIn Fence.wide n Tryz.prog 140 #[iV i (.slice au nu cu) (.slice av nv cv), .agg (rcC r sv (.slice da nd dc))] w (LdP i r (.slice av nv cv) w) := by
  have h1 : 1 ≤ n := by omega
  have hat := hm.2.2.1
  have hle := hm.2.2.2
  have hn1 := hm.2.1
  obtain rfl : i.data.length = nv := by obtain ⟨_, ⟨e, e2⟩ | ⟨g, c, cur, e, _⟩⟩ := hrd <;> simp_all
  have HH : Hid (BO w (.slice av i.data.length cv) i.data ∧ SO w (.slice au nu cu) i.hv ∧ IsSet i.hv ∧ i.data.length ≤ 65536 ∧ may4 r.off r.data ∧ r.data.length = nd ∧ Lies .u8 w da r.data) := ⟨hrd, hrh, hset, hlen, hm, hnd, hz⟩
  have HSP : Hid (∀ g, (Value.slice da nd dc).ownBlock = some g → (Value.slice av i.data.length cv).ownBlock ≠ some g) := hsep
  obtain ⟨base, hbase⟩ : ∃ base, base = pad i.data (r.off + (r.data.length : Int)).toNat := ⟨_, rfl⟩
  have HBS : Hid (base = pad i.data (r.off + (r.data.length : Int)).toNat) := hbase
  have HBL : Hid (base.length = max i.data.length (r.off + (nd : Int)).toNat) := by unfold Hid; rw [hbase, pad_len, hnd]
  clear hbase
  obtain ⟨V0, hV0⟩ : ∃ V0, V0 = ((w.alloc (.cells #[.int .i64 i.org, .int .i64 i.num, .int .i64 i.srv, .int .i64 i.red, .int .i64 i.size, .slice au nu cu, .slice av i.data.length cv, .bool i.done, .bool i.gone, .bool i.heard, .bool i.shut, .int .i64 i.how] 63)).alloc (rcO r sv (.slice da nd dc))) := ⟨_, rfl⟩
  have HV0 : Hid (V0 = ((w.alloc (.cells #[.int .i64 i.org, .int .i64 i.num, .int .i64 i.srv, .int .i64 i.red, .int .i64 i.size, .slice au nu cu, .slice av i.data.length cv, .bool i.done, .bool i.gone, .bool i.heard, .bool i.shut, .int .i64 i.how] 63)).alloc (rcO r sv (.slice da nd dc)))) := hV0
  have hs0 : V0.heap.size = w.heap.size + 1 + 1 := by rw [hV0]; simp
  have HB0 : Hid (Below w.heap.size w V0) := by unfold Hid; rw [hV0]; exact ((Below.refl _ _).alloc (Nat.le_refl _) _).alloc (by simp) _
  have p0 : V0.heap[w.heap.size]? = some (.cells #[.int .i64 i.org, .int .i64 i.num, .int .i64 i.srv, .int .i64 i.red, .int .i64 i.size, .slice au nu cu, .slice av i.data.length cv, .bool i.done, .bool i.gone, .bool i.heard, .bool i.shut, .int .i64 i.how] 63) := by rw [hV0]; exact (Below.heap_alloc _ _ _ (by simp)).trans (heap_alloc_new' w _)
  have p1 : V0.heap[w.heap.size + 1]? = some (rcO r sv (.slice da nd dc)) := by rw [hV0]; have := heap_alloc_new' (w.alloc (.cells #[.int .i64 i.org, .int .i64 i.num, .int .i64 i.srv, .int .i64 i.red, .int .i64 i.size, .slice au nu cu, .slice av i.data.length cv, .bool i.done, .bool i.gone, .bool i.heard, .bool i.shut, .int .i64 i.how] 63)) (rcO r sv (.slice da nd dc)); rwa [World.size_alloc] at this
  obtain ⟨k0, k1, k2, k3, k4, k5, k6, k7, k8, k9, k10⟩ := rc_cells p1
  have HPL : Hid (Calls Tryz.prog 131 #[.agg (rcC r sv (.slice da nd dc))] V0 fun e w' => e = .returned (.agg #[.int .i64 r.off, .int .i64 (r.off + nd)]) ∧ Below V0.heap.size V0 w') := places8_any r sv da nd dc V0 ⟨hat, by omega⟩ (by omega)
  refine callsIn_of_wp_marks Tryz.func140 rfl trivial ?_ rfl
  simp only [Tryz.ntmps140, List.size_toArray, List.length_cons, List.length_nil, Nat.reduceAdd, Nat.reduceSub, Array.replicate_succ, Array.replicate_zero, List.push_toArray, List.append_toArray, List.nil_append, List.cons_append]
  refine wpIn_wide.2 (Code.wp_mono (fun _ _ _ h => calmB_le h) ?_)
  clear hm hrd hrh hset hlen hnd hz hsep
  have HP : Hid (V0.heap[w.heap.size]? = some (.cells #[.int .i64 i.org, .int .i64 i.num, .int .i64 i.srv, .int .i64 i.red, .int .i64 i.size, .slice au nu cu, .slice av i.data.length cv, .bool i.done, .bool i.gone, .bool i.heard, .bool i.shut, .int .i64 i.how] 63) ∧ V0.heap[w.heap.size + 1]? = some (rcO r sv (.slice da nd dc)) ∧ V0.heap.size = w.heap.size + 1 + 1) := ⟨p0, p1, hs0⟩
  clear p0 p1 hs0 hV0
  go_upto_region 1 with fail
  rw [← HV0.out]
  go_upto_region 2 with (go_at_call 131; refine HPL.out.mono ?_; rintro e w1 ⟨rfl, hb1⟩)
  clear k0 k1 k2 k3 k4 k5 k6 k7 k8 k9 k10 HPL
  obtain ⟨q0, q1, q2⟩ := HP.out
  have HW1 : Hid (Below w.heap.size w w1 ∧ w1.heap[w.heap.size]? = some (.cells #[.int .i64 i.org, .int .i64 i.num, .int .i64 i.srv, .int .i64 i.red, .int .i64 i.size, .slice au nu cu, .slice av i.data.length cv, .bool i.done, .bool i.gone, .bool i.heard, .bool i.shut, .int .i64 i.how] 63) ∧ w1.heap[w.heap.size + 1]? = some (rcO r sv (.slice da nd dc)) ∧ w.heap.size + 2 ≤ w1.heap.size) := ⟨HB0.out.trans (hb1.mono (by omega)), (hb1.block _ (by omega)).trans q0, (hb1.block _ (by omega)).trans q1, by have := hb1.size; omega⟩
  clear hb1 HP HV0 HB0 q0 q1 q2
  obtain ⟨V1, hV1⟩ : ∃ V1, V1 = w1.alloc (.cells #[.int .i64 r.off, .int .i64 (r.off + (nd : Int))] 90 (0, 0)) := ⟨_, rfl⟩
  have HV1 : Hid (Below w.heap.size w V1 ∧ V1.heap[w.heap.size]? = some (.cells #[.int .i64 i.org, .int .i64 i.num, .int .i64 i.srv, .int .i64 i.red, .int .i64 i.size, .slice au nu cu, .slice av i.data.length cv, .bool i.done, .bool i.gone, .bool i.heard, .bool i.shut, .int .i64 i.how] 63) ∧ V1.heap[w.heap.size + 1]? = some (rcO r sv (.slice da nd dc)) ∧ V1.heap[w1.heap.size]? = some (.cells #[.int .i64 r.off, .int .i64 (r.off + (nd : Int))] 90 (0, 0)) ∧ V1.heap.size = w1.heap.size + 1) := by
    obtain ⟨a1, a2, a3, a4⟩ := HW1.out
    rw [hV1]
    exact ⟨a1.alloc a1.size _, (Below.heap_alloc _ _ _ (by omega)).trans a2, (Below.heap_alloc _ _ _ (by omega)).trans a3, heap_alloc_new' w1 _, by simp⟩
  have HA : Hid (w.heap.size + 2 ≤ w1.heap.size) := HW1.out.2.2.2
  rw [← hV1]
  clear hV1 HW1
  have c6 : V1.cell? ⟨w.heap.size, 6, none⟩ = some (.slice av i.data.length cv) := (cell_of_row _ _ _ _ _ _ HV1.out.2.1).trans rfl
  go_upto_region 3 with fail
  obtain ⟨V2, hV2⟩ : ∃ V2, V2 = V1.alloc (.cells #[.slice av i.data.length cv] 33) := ⟨_, rfl⟩
  have HV2 : Hid (Below w.heap.size w V2 ∧ V2.heap[w.heap.size]? = some (.cells #[.int .i64 i.org, .int .i64 i.num, .int .i64 i.srv, .int .i64 i.red, .int .i64 i.size, .slice au nu cu, .slice av i.data.length cv, .bool i.done, .bool i.gone, .bool i.heard, .bool i.shut, .int .i64 i.how] 63) ∧ V2.heap[w.heap.size + 1]? = some (rcO r sv (.slice da nd dc)) ∧ V2.heap[w1.heap.size]? = some (.cells #[.int .i64 r.off, .int .i64 (r.off + (nd : Int))] 90 (0, 0)) ∧ V2.heap[V1.heap.size]? = some (.cells #[.slice av i.data.length cv] 33) ∧ V2.heap.size = V1.heap.size + 1 ∧ V1.heap.size = w1.heap.size + 1) := by
    obtain ⟨a1, a2, a3, a4, a5⟩ := HV1.out
    have := HA.out
    rw [hV2]
    exact ⟨a1.alloc a1.size _, (Below.heap_alloc _ _ _ (by omega)).trans a2, (Below.heap_alloc _ _ _ (by omega)).trans a3, (Below.heap_alloc _ _ _ (by omega)).trans a4, heap_alloc_new' V1 _, by simp, a5⟩
  rw [← hV2]
  clear hV2 c6
  obtain ⟨Ba, hBa⟩ : ∃ Ba, w1.heap.size = Ba := ⟨_, rfl⟩
  obtain ⟨Bd, hBd⟩ : ∃ Bd, V1.heap.size = Bd := ⟨_, rfl⟩
  rw [hBa, hBd] at HV2
  rw [hBa] at HA
  rw [hBa, hBd]
  clear HV1 hBa hBd
  have d1 : V2.cell? ⟨Ba, 1, none⟩ = some (.int .i64 (r.off + (nd : Int))) := (cell_of_row _ _ _ _ _ _ HV2.out.2.2.2.1).trans rfl
  have d2 : V2.cell? ⟨Bd, 0, none⟩ = some (.slice av i.data.length cv) := (cell_of_row _ _ _ _ _ _ HV2.out.2.2.2.2.1).trans rfl
  obtain ⟨d, hd⟩ : ∃ d : Int, d = r.off + (nd : Int) - (i.data.length : Int) := ⟨_, rfl⟩
  have u2 : IntKind.i64.wrap (r.off + (nd : Int) - (i.data.length : Int)) = d := by have := HH.out; rw [IntKind.wrap_i64]; omega
  have HD : Hid (d = r.off + (nd : Int) - (i.data.length : Int)) := hd
  clear hd
  go_upto_if 20 with fail
  go_cut [23] from 19 to 24 (fun q wx => ∃ gb cpb, Hid (LQ w i r au av da nu i.data.length cu cv nd dc sv Ba Bd gb cpb base wx))
  case first =>
    clear u2 d1
    have hdl := HH.out.2.2.2.1
    have hdd := HD.out
    by_cases hlk : 0 < d
    · obtain ⟨m, hm⟩ : ∃ m : Nat, (m : Int) = d := ⟨d.toNat, by omega⟩
      have hnz := HH.out.2.2.2.2.2.1
      have hm0 : 0 < m := by omega
      obtain ⟨i0, hi, hz0, hz1, hz2⟩ := info_parts Tryz.info_u8
      have hrd2 : BO V2 (.slice av i.data.length cv) i.data := own_same0 HH.out.1 (fun k hk => HV2.out.1.block k (HH.out.1.lt k hk).2)
      obtain ⟨v', w5, hrun, r1, r2, r3⟩ := run_append_zeros_own (P := Tryz.prog) V2 0 33 3 33 5 i0 (.int .u8 0) Tryz.underlying33 Tryz.underlying3 hi hz0 hz1 hz2 rfl rfl (.slice av i.data.length cv) i.data.length (i.data.map (Value.int .u8)) hrd2 m hm0 (by omega) (Nat.zero_le _)
      rw [hm] at hrun
      obtain ⟨gb, cpb, rfl⟩ : ∃ gb c, v' = .slice (some ⟨gb, 0, none⟩) (i.data.length + m) c := own_some r1 (by omega)
      have hBd5 : w5.heap[Bd]? = some (.cells #[.slice av i.data.length cv] 33) := by
        refine (r2.block Bd (by have := HV2.out; omega) (fun e => ?_)).trans HV2.out.2.2.2.2.1
        have := (HH.out.1.lt Bd e.symm).2
        have := HV2.out; have := HA.out; omega
      have HTP : Hid (LQ w i r au av da nu i.data.length cu cv nd dc sv Ba Bd gb cpb base (w5.setCell ⟨Bd, 0, none⟩ (.slice (some ⟨gb, 0, none⟩) (i.data.length + m) cpb))) := by
        obtain ⟨a1, a2, a3, a4, a5, a6, a7⟩ := HV2.out
        have hA := HA.out
        have hbl' := HBL.out
        have hbm : base.length = i.data.length + m := by omega
        have hbs : base.map (Value.int .u8) = i.data.map (Value.int .u8) ++ List.replicate m (.int .u8 0) := by rw [HBS.out, pad, List.map_append, List.map_replicate]; congr 2; have := HH.out; omega
        have hgr := r2.size
        obtain ⟨hl1, ⟨hn1, _⟩ | ⟨g', cap', cur, hv1, _, hh, hnc, hcm, hcs, htk⟩⟩ := r1
        · cases hn1
        · cases hv1
          have hob : ∀ k, (Value.slice av i.data.length cv).ownBlock = some k → k < w.heap.size := fun k hk => (HH.out.1.lt k hk).2
          have hgB : gb ≠ Bd := fun e => by rw [e, hBd5] at hh; cases hh
          have hw5 : ∀ k, k < V2.heap.size → k ≠ Bd → (Value.slice av i.data.length cv).ownBlock ≠ some k → (w5.setCell ⟨Bd, 0, none⟩ (.slice (some ⟨gb, 0, none⟩) (i.data.length + m) cpb)).heap[k]? = V2.heap[k]? := fun k h1 h2 h3 => (Below.heap_setCell _ _ _ _ h2).trans (r2.block k h1 (fun e => h3 e.symm))
          refine ⟨(hw5 _ (by omega) (by omega) (fun e => by have := hob _ e; omega)).trans a2, (hw5 _ (by omega) (by omega) (fun e => by have := hob _ e; omega)).trans a3, (hw5 _ (by omega) (by omega) (fun e => by have := hob _ e; omega)).trans a4, ?_, ⟨cur.toList.drop (i.data.length + m), ?_, ?_⟩, hcm, ?_, ⟨r2.os.trans a1.os, r2.tape.trans a1.tape, r2.output.trans a1.output, by simp [World.setCell]; have h9 : V2.heap.size ≤ w5.heap.size := hgr; omega, fun k k0 k1 => (hw5 k (by omega) (by omega) k1).trans (a1.block k k0)⟩, by omega, by omega⟩
          · rw [hbm]; simp [World.setCell, Array.getElem?_modify, hBd5]
          · rw [Below.heap_setCell _ _ _ _ hgB, hh, hbs]
            have : cur.toList.take (i.data.length + m) = i.data.map (Value.int .u8) ++ List.replicate m (.int .u8 0) := by rw [← htk]; congr 1; omega
            rw [← this, List.take_append_drop]
          · rw [hbm, List.length_drop, Array.length_toList]; omega
          · rcases r3 with h | h
            · exact .inl (h ▸ rfl)
            · have : gb = V2.heap.size := by simpa [Value.ownBlock] using h
              exact .inr (by omega)
      have hfz : w5.frozen? ⟨Bd, 0, none⟩ = false := by simp [World.frozen?, hBd5]
      have hd5 : w5.cell? ⟨Bd, 0, none⟩ = some (.slice av i.data.length cv) := cell_of_one hBd5
      clear r1 r2 r3 hrd2 hBd5 hi hz0 hz1 hz2 hm HH HBS HBL HV2 HSP HA hdl hat hle hn1 HD hdd hnz hm0
      go_wp2_with (at_builtin; refine wpl_append_run rfl _ _ _ _ rfl _ _ rfl rfl _ _ hrun ?_)
      go_meet
      exact ⟨gb, cpb, HTP⟩
    · obtain ⟨gb, cpb, hsb⟩ : ∃ gb c, Value.slice av i.data.length cv = .slice (some ⟨gb, 0, none⟩) i.data.length c := own_some HH.out.1 (by have := HH.out.2.2.2.2.2.1; omega)
      simp only [Value.slice.injEq, true_and] at hsb
      obtain ⟨rfl, rfl⟩ := hsb
      have HTP : Hid (LQ w i r au (some ⟨gb, 0, none⟩) da nu i.data.length cu cv nd dc sv Ba Bd gb cv base V2) := by
        obtain ⟨a1, a2, a3, a4, a5, a6, a7⟩ := HV2.out
        have hA := HA.out
        have hbl' := HBL.out
        have hbb : base = i.data := by rw [HBS.out, pad, show (r.off + (r.data.length : Int)).toNat - i.data.length = 0 from by have := HH.out.2.2.2.2.2.1; omega]; simp
        obtain ⟨hl1, ⟨hn1, _⟩ | ⟨g', cap', cur, hv1, _, hh, hnc, hcm, hcs, htk⟩⟩ := HH.out.1
        · cases hn1
        · cases hv1
          have hgw : gb < w.heap.size := (Array.getElem?_eq_some_iff.1 hh).1
          refine ⟨a2, a3, a4, by rw [hbb]; exact a5, ⟨cur.toList.drop i.data.length, ?_, ?_⟩, hcm, .inl rfl, ⟨a1.os, a1.tape, a1.output, a1.size, fun k k0 _ => a1.block k k0⟩, by omega, by omega⟩
          · rw [(a1.block gb hgw), hh, hbb]
            have : cur.toList.take i.data.length = i.data.map (Value.int .u8) := by rw [← htk]; congr 1; omega
            rw [← this, List.take_append_drop]
          · rw [hbb, List.length_drop, Array.length_toList]; omega
      clear HH HBS HBL HV2 HSP HA hdl hat hle hn1 HD hdd
      go_wp2_with fail
      go_meet
      exact ⟨gb, cv, HTP⟩
  case rest =>
    obtain ⟨gb, cpb, HT⟩ := hcut
    obtain ⟨W5, rfl⟩ : ∃ W5, W5 = wc := ⟨_, rfl⟩
    clear HV2 u2 d1 d2 HA HD
    have HWk : Hid (Calls Tryz.prog 164 #[.slice au nu cu, .agg #[.int .i64 r.off, .int .i64 (r.off + nd)]] W5 (WalkPost i.hv r.off (r.off + nd) W5)) := walk_any r.off (r.off + nd) ((SOwn.ls (base := 0) (own_same0 HH.out.2.1 (fun g hg => HT.out.kl.block g (HH.out.2.1.lt g hg).2 (fun e => by
          obtain ⟨_, ⟨h9, _⟩ | ⟨g', cap, cur, h9, _, hh, _⟩⟩ := HH.out.2.1
          · rw [h9] at hg; cases hg
          · rw [h9] at hg; cases hg
            obtain ⟨_, ⟨h8, _⟩ | ⟨g', cap, cur, h8, _, hh2, _⟩⟩ := HH.out.1
            · rw [h8] at e; cases e
            · rw [h8] at e; cases e; rw [hh] at hh2; cases hh2)))) (by have := HH.out.2.2.1.1; omega)) HH.out.2.2.1 ⟨hat, by show r.off ≤ r.off + (nd : Int); omega, by have := HH.out.2.2.2.2.2.1; show r.off + (nd : Int) ≤ _; omega⟩
    have c5 : W5.cell? ⟨w.heap.size, 5, none⟩ = some (.slice au nu cu) := (cell_of_row _ _ _ _ _ _ HT.out.pi).trans rfl
    have a0 : W5.cell? ⟨Ba, 0, none⟩ = some (.int .i64 r.off) := (cell_of_row _ _ _ _ _ _ HT.out.pa).trans rfl
    have a1 : W5.cell? ⟨Ba, 1, none⟩ = some (.int .i64 (r.off + nd)) := (cell_of_row _ _ _ _ _ _ HT.out.pa).trans rfl
    go_wp2_with (go_at_call 164; refine HWk.out.mono ?_; rintro e w2 ⟨Bs, Bl, a2, cc2, rfl, HW2⟩)
    obtain ⟨W6, rfl⟩ : ∃ W6, W6 = w2 := ⟨_, rfl⟩
    obtain ⟨hw1, hw2, hw3, hw4, hw5, _, hw0⟩ := HW2
    have hBsl : Bs < W6.heap.size := (Array.getElem?_eq_some_iff.1 hw1).1
    have hs6 := hw0.size
    have HKl : Hid (∀ k, (∃ x, a2 = some x ∧ x.block = k) → W5.heap.size ≤ k ∧ k < W6.heap.size) := by
      rintro k ⟨x, rfl, rfl⟩
      exact hw3.lt _ rfl
    have HT6 : Hid (LQ w i r au av da nu i.data.length cu cv nd dc sv Ba Bd gb cpb base W6) := HT.out.below hw0
    have hgb5 := HT.out.lt
    have hJ0 : LJ gb cpb r.data r.off base W6 [] W6 := ⟨HT6.out.gr, Kl.refl _ _⟩
    have hcl : pc (r.off + nd) r.off (wth i.hv (r.off, r.off + (nd : Int))) = pc (r.off + nd) r.off i.hv := pc_within
    have hll : (wth i.hv (r.off, r.off + (nd : Int))).length ≤ 1048576 := by have := len_true (hi := r.off + nd) (l := i.hv) (p := r.off); have := HH.out.2.2.1.1; show (pick true (pc (r.off + nd) r.off i.hv)).length ≤ _; omega
    have hseq := piecesK_mem (n - 1) (by omega) Bs Bl (fun k => ∃ x, a2 = some x ∧ x.block = k) a2 cc2 (wth i.hv (r.off, r.off + (nd : Int))) r.off (r.off + nd) hll W6 hw1 (cell_of_one hw2) (SOwn.spK2 hw3)
    rw [hcl] at hseq
    have HW1 : Hid (W6.heap[Bs]? = some (.cells #[.int .i64 r.off, .int .i64 (r.off + nd)] 90 (0, 0)) ∧ W5.heap.size ≤ Bs) := ⟨hw1, hw4⟩
    clear hcl hll hw2 hw3 hw1 HT hw0 HWk c5 a0 a1
    refine (wpIn_wide (n := n)).1 ?_
    refine wpIn_rangeFunc_ownH rfl h1 (gf := 181) (lb := #[.pointer (some ⟨Bs, 0, none⟩), .pointer (some ⟨Bl, 0, none⟩)]) rfl trivial (enters_of Tryz.func181 (by kernel_rfl) rfl)
      hseq KpK.trans (kpK_put (N := W6.heap.size) (fun k hk => (HKl.out k hk).2) hBsl) (Below.refl _ _) (fun _ => rfl)
      (fun pre W => LJ gb cpb r.data r.off base W6 (pre.map Subtype.val) W) (fun _ _ _ => False)
      (LJ.own (Nat.le_refl _)) (fun _ _ _ _ _ hs _ _ => hs)
      hJ0
      (fun x a' W => ∃ Bx, W6.heap.size ≤ Bx ∧ W.heap[Bx]? = some (.cells #[.int .i64 x.1.1.1, .int .i64 x.1.1.2] 90 (0, 0)) ∧ a' = { tmps := #[iV i (.slice au nu cu) (.slice av i.data.length cv), .agg (rcC r sv (.slice da nd dc)), .pointer (some ⟨w.heap.size, 0, none⟩), .pointer (some ⟨w.heap.size + 1, 0, none⟩), .slice none 0 0, .pointer (some ⟨Ba, 0, none⟩), .pointer (some ⟨Bd, 0, none⟩), .int .i64 d, .pointer (some ⟨Bx, 0, none⟩), .bool x.1.2, .agg #[.int .i64 r.kind, .int .i64 r.org, .int .i64 r.num, .int .i64 r.peer, .int .i64 r.srv, .int .i64 r.off, .int .i64 r.red, .int .i64 r.size, .int .i64 r.how, sv, .slice da nd dc], .agg #[.int .i64 r.off, .int .i64 (r.off + (nd : Int))], .pointer (some ⟨w.heap.size, 6, none⟩), .slice av i.data.length cv, .pointer (some ⟨Ba, 1, none⟩), .int .i64 (r.off + (nd : Int)), .slice av i.data.length cv, .int .i64 (i.data.length : Int), .int .i64 d, u19, u20, u21, u22, u23, .pointer (some ⟨w.heap.size, 5, none⟩), .slice au nu cu, .agg #[.int .i64 r.off, .int .i64 (r.off + (nd : Int))], .func (.func 181) #[] #[.pointer (some ⟨Bs, 0, none⟩), .pointer (some ⟨Bl, 0, none⟩)], .agg #[.int .i64 x.1.1.1, .int .i64 x.1.1.2], .bool x.1.2, undef, undef, undef, undef, undef, undef, undef, undef, undef, undef, undef, undef, undef, undef, undef, undef, undef, undef], defers := [] })
      (fun x a' _ X Y row hs hg hr => by obtain ⟨Bx, h2, h3, h4⟩ := hs; exact ⟨Bx, h2, cells_keep h3 hg hr, h4⟩)
      ?assign ?body ?done ?stop
    case assign =>
      rintro l' pre x W K hGI hK
      have hlw := hGI.kl.size
      gi_wp2
      exact hK _ _ ((KeepsOthers.alloc _ _).from _) ⟨BlK.of_below ((Below.refl _ W).alloc (Nat.le_refl _) _), Below.heap_alloc W _ _ (by omega)⟩ (hGI.alloc _) ⟨W.heap.size, hlw, heap_alloc_new' _ _, rfl⟩
    case body =>
      rintro l' pre ⟨⟨⟨x1, x2⟩, xc⟩, hx⟩ a' W hl' hr hGI ⟨Bx, hbx, hxb, rfl⟩ hlt
      have hin := pc_in HH.out.2.2.1.2 _ hx
      simp only at hin
      have HGI : Hid (LJ gb cpb r.data r.off base W6 (pre.map Subtype.val) W) := hGI
      have HXB : Hid (W.heap[Bx]? = some (.cells #[.int .i64 x1, .int .i64 x2] 90 (0, 0))) := hxb
      clear hGI hxb hr hl'
      cases xc with
      | true =>
        gi_wp2
        refine ⟨KeepsFrom.refl _ _, KpK.refl _ _ _, ?_⟩
        have e : lay r.data r.off base ((pre ++ [(⟨((x1, x2), true), hx⟩ : { x : Pz // x ∈ pc (r.off + nd) r.off i.hv })]).map Subtype.val) = lay r.data r.off base (pre.map Subtype.val) := by rw [List.map_append]; show lay _ _ _ (_ ++ [((x1, x2), true)]) = _; rw [lay_snoc]; simp
        exact ⟨by rw [e]; exact HGI.out.gr, HGI.out.kl⟩
      | false =>
        have ht6 := HT6.out
        have hba := ht6.ba
        have hbd := ht6.bd
        have hlt6 := ht6.lt
        have hne := ht6.ne
        have hnz := HH.out.2.2.2.2.2.1
        obtain ⟨rest, hgr, hcp⟩ := HGI.out.gr
        obtain ⟨gd, od, rfl, hzc⟩ : ∃ gd od, da = some ⟨gd, od, none⟩ ∧ ∀ j, j < r.data.length → w.cell? ⟨gd, od + j, none⟩ = some (.int .u8 (r.data.getD j 0)) := by
          rcases HH.out.2.2.2.2.2.2 with h0 | h0
          · rw [h0] at hn1; simp at hn1
          · exact h0
        obtain ⟨f, rfl⟩ : ∃ f : Nat, x1 = f := ⟨x1.toNat, by omega⟩
        obtain ⟨t, rfl⟩ : ∃ t : Nat, x2 = t := ⟨x2.toNat, by omega⟩
        obtain ⟨m2, hm2⟩ : ∃ m2 : Nat, (m2 : Int) = (f : Int) - r.off := ⟨((f : Int) - r.off).toNat, by omega⟩
        have hbq := HBL.out
        have hfit : ∀ y ∈ pre.map Subtype.val, Fit base.length r.data r.off y.1 := fun y hy => by
          obtain ⟨⟨z, hz⟩, _, rfl⟩ := List.mem_map.mp hy
          have h3 := pc_in HH.out.2.2.1.2 _ hz
          exact ⟨hat, h3.1, by show z.1.1 ≤ z.1.2; omega, by show z.1.2 ≤ _; omega, by omega⟩
        have hlb := (lay_get hfit).1
        have hdw : gd < w.heap.size := World.block_lt_of_cell? w ⟨gd, od + 0, none⟩ (hzc 0 (by omega))
        have hsp := HSP.out gd rfl
        have hgdg : gd ≠ gb := by
          rcases ht6.wh with h | h
          · exact fun e => hsp (by rw [e]; exact h)
          · omega
        have hkd : W.heap[gd]? = w.heap[gd]? := (HGI.out.kl.block gd (by have := ht6.kl.size; omega) hgdg).trans (ht6.kl.block gd hdw hsp)
        have hmm : ((r.data.drop m2).take (t - f)).length = t - f := by rw [List.length_take, List.length_drop]; omega
        have hcsz : (((lay r.data r.off base (pre.map Subtype.val)).map (Value.int .u8) ++ rest).toArray).size = base.length + rest.length := by simp [hlb]
        gi_wp2_with fail
        refine regL10 l' _ _ (by rintro ⟨a, w, h⟩; exact h) (fun _ _ _ _ h => h) (w.heap.size + 1) Ba Bd Bx gb base.length cpb gd od nd dc f t m2 r.off W _ (((r.data.drop m2).take (t - f)).map (Value.int .u8)) (by omega) (by omega) (by omega) (by have := ht6.cp; simp only [maxLen] at this; omega) (by omega) hdc hdm (by rw [IntKind.wrap_i64]; omega) (by omega) hgr (by rw [List.length_map, hmm]) ?_ (by rw [hcsz]; omega) ?_ ⟨hne.2.2.2, hne.2.2.1, hne.2.1, by omega⟩ ⟨cell_of_one ((HGI.out.kl.block _ (by omega) hne.2.2.2).trans ht6.pd), cell_of_row _ _ 0 _ _ _ ((HGI.out.kl.block _ (by omega) hne.2.2.1).trans ht6.pa), cell_of_row _ _ 10 _ _ _ ((HGI.out.kl.block _ (by omega) hne.2.1).trans ht6.pr), cell_of_row _ _ 0 _ _ _ HXB.out, cell_of_row _ _ 1 _ _ _ HXB.out⟩ ?_
        · intro j v hj
          rw [List.getElem?_map, List.getElem?_take] at hj
          split at hj
          · rename_i hjt
            rw [List.getElem?_drop] at hj
            have hlz : m2 + j < r.data.length := by omega
            rw [List.getElem?_eq_getElem hlz] at hj
            simp only [Option.map_some, Option.some.injEq] at hj
            have h7 := hzc (m2 + j) hlz
            rw [List.getD_eq_getElem?_getD, List.getElem?_eq_getElem hlz] at h7
            rw [← hj, ← show Value.int .u8 ((some r.data[m2 + j]).getD 0) = Value.int .u8 r.data[m2 + j] from rfl, ← h7]
            rw [Addr.add_lit, Nat.add_assoc]
            exact World.cell?_of_block (w' := W.drew) (a := ⟨gd, od + (m2 + j), none⟩) hkd
          · simp at hj
        · intro v hv
          obtain ⟨z, _, rfl⟩ := List.mem_map.mp hv
          rfl
        · generalize hcs' : (List.take f ((lay r.data r.off base (pre.map Subtype.val)).map (Value.int .u8) ++ rest).toArray.toList ++ ((r.data.drop m2).take (t - f)).map (Value.int .u8) ++ List.drop (f + (((r.data.drop m2).take (t - f)).map (Value.int .u8)).length) ((lay r.data r.off base (pre.map Subtype.val)).map (Value.int .u8) ++ rest).toArray.toList).toArray = cs'
          have hcs2 : cs' = ((over (lay r.data r.off base (pre.map Subtype.val)) r.data r.off ((f : Int), (t : Int))).map (Value.int .u8) ++ rest).toArray := by
            rw [← hcs']
            congr 1
            simp only [over]
            rw [show (((f : Int), (t : Int)) : Sp).1.toNat = f from by simp, show (((f : Int), (t : Int)) : Sp).2.toNat = t from by simp, show ((((f : Int), (t : Int)) : Sp).1 - r.off).toNat = m2 from by simp only; omega, show ((((f : Int), (t : Int)) : Sp).2 - (((f : Int), (t : Int)) : Sp).1).toNat = t - f from by simp only; omega, List.length_map, hmm, show f + (t - f) = t from by omega]
            simp only [List.map_append, List.map_take, List.map_drop]
            rw [List.take_append_of_le_length (by simp [hlb]; omega), List.drop_append_of_le_length (by simp [hlb]; omega)]
            simp [List.append_assoc]
          have hgg : W.grownBy (W.drew.setRow gb cs') (some gb) := ⟨rfl, rfl, rfl, by simp, fun k _ hk => setRow_other W.drew gb k cs' (fun e => hk (by rw [e]))⟩
          have hkf : KeepsOthers W (W.drew.setRow gb cs') := KeepsOthers.of_grownBy hgg fun j o ej hj => by
            cases ej; rw [hgr] at hj; cases hj; rfl
          have hBsg := HW1.out.2
          refine ⟨hkf.from _, ⟨⟨by simp, fun k hk hl => setRow_other W.drew gb k cs' (fun e => by have := (HKl.out k hk).1; omega)⟩, setRow_other W.drew gb Bs cs' (by omega)⟩, ?_⟩
          have e : lay r.data r.off base ((pre ++ [(⟨(((f : Int), (t : Int)), false), hx⟩ : { x : Pz // x ∈ pc (r.off + nd) r.off i.hv })]).map Subtype.val) = over (lay r.data r.off base (pre.map Subtype.val)) r.data r.off ((f : Int), (t : Int)) := by rw [List.map_append]; show lay _ _ _ (_ ++ [(((f : Int), (t : Int)), false)]) = _; rw [lay_snoc]; simp
          exact ⟨⟨rest, by rw [e, ← hcs2]; exact setRow_heap W.drew gb _ cs' _ _ hgr, hcp⟩, HGI.out.kl.then (Kl.grown (Kl.refl (fun g => g = gb) W) hgg (fun g e => .inl (by cases e; rfl))) (fun g _ e => e)⟩
    case done =>
      rintro D ys W hD hS hGI hK
      rw [hS] at hGI
      have hnz := HH.out.2.2.2.2.2.1
      have hbq := HBL.out
      have hfit : ∀ x ∈ pc (r.off + (r.data.length : Int)) r.off i.hv, Fit base.length r.data r.off x.1 := fun y hy => by
        have h3 := pc_in HH.out.2.2.1.2 _ hy
        exact ⟨hat, h3.1, by show y.1.1 ≤ y.1.2; omega, by show y.1.2 ≤ _; omega, by omega⟩
      have HE : Hid (LdP i r (.slice av i.data.length cv) w (.returned (.slice (some ⟨gb, 0, none⟩) base.length cpb)) (W.putObj D (.deferred none))) := ld_end HBS.out HH.out.2.2.2.2.1 hfit HT6.out (by rw [hnz]; exact hGI) D hD
      have hd0 : W.cell? ⟨Bd, 0, none⟩ = some (.slice (some ⟨gb, 0, none⟩) base.length cpb) := cell_of_one ((hGI.kl.block _ HT6.out.lt.2.2.1 HT6.out.ne.2.2.2).trans HT6.out.pd)
      clear hGI hfit hbq
      go_wp2
      change bodyPostM Fence.wide n Tryz.prog _ _ Exit.ret _ _
      refine ⟨by simp, .inl ⟨_, _, rfl, run_takeDeferred hK, ?_⟩⟩
      exact ⟨_, results_tmp (fn := Tryz.f140) (t := 4) rfl _ _ _, HE.out⟩
    case stop =>
      rintro D c' pre W _ _ h _
      exact h.elim

end Go.Proofs.YtillgoegiplmkaaGreatDoor.B
