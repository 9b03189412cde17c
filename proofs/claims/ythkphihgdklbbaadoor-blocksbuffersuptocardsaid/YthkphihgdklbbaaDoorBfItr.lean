import Derived.Test.YthkphihgdklbbaaDoorBkWlk
import Derived.Test.YthkphihgdklbbaaDoorItK
import Derived.Test.YthkphihgdklbbaaDoorStp
import Derived.Test.YthkphihgdklbbaaDoorBfMath
import Derived.Deep.RegionHeld3
import Derived.Laws.CopyOwn
import Derived.Deep.RegionWith
import Derived.Deep.CutRange
namespace Go.Proofs.YthkphihgdklbbaaDoor.C
open Go.RowKit Go.Shelf
attribute [local go_sem] Oper.semAt_some
set_option linter.unusedVariables false

/-- The pieces hang on what lies within alone. -/
theorem pc_within {hi : Int} : ∀ {l : List Sp} {p : Int}, pc hi p (pick true (pc hi p l)) = pc hi p l
  | [], p => by
    simp only [pc]
    split
    · simp [pick, pc, *]
    · simp [pick, pc, *]
  | x :: r, p => by
    by_cases h : min x.2 hi ≤ max x.1 p
    · rw [pc_skip h]; exact pc_within
    · by_cases hp : p < x.1
      · rw [pc_gap h hp]
        have e : pick true (((p, x.1), false) :: ((x.1, min x.2 hi), true) :: pc hi (min x.2 hi) r) = (x.1, min x.2 hi) :: pick true (pc hi (min x.2 hi) r) := by simp [pick]
        rw [e, pc_gap (x := (x.1, min x.2 hi)) (by simp only; omega) hp]
        simp only
        rw [show min (min x.2 hi) hi = min x.2 hi by omega, pc_within]
      · rw [pc_on h (by omega)]
        have e : pick true (((p, min x.2 hi), true) :: pc hi (min x.2 hi) r) = (p, min x.2 hi) :: pick true (pc hi (min x.2 hi) r) := by simp [pick]
        rw [e, pc_on (x := (p, min x.2 hi)) (by simp only; omega) (by simp only; omega)]
        simp only
        rw [show min (min x.2 hi) hi = min x.2 hi by omega, pc_within]

/-- The iterator, where what is done with a piece hangs on its being one, and where a body may write what is none of its list's blocks. -/
theorem piecesK_mem (n : Nat) (hn : 1 ≤ n) (Bs Bl : Nat) (K : Nat → Prop) (a : Option Addr) (c : Nat) (xs : List Sp) (s1 s2 : Int) (hm : xs.length ≤ 1048576) (w : World)
    (hBs : w.heap[Bs]? = some (.cells #[.int .i64 s1, .int .i64 s2] 38 (0, 0))) (hBl : w.cell? ⟨Bl, 0, none⟩ = some (.slice a xs.length c)) (hL : SpK K w a xs) :
    SeqStopsK Fence.wide n Tryd.prog 70 #[.pointer (some ⟨Bs, 0, none⟩), .pointer (some ⟨Bl, 0, none⟩)] (fun x : { x : Pz // x ∈ pc s2 s1 xs } => #[Value.agg #[.int .i64 x.1.1.1, .int .i64 x.1.1.2], .bool x.1.2]) (KpK K Bs) (fun ys => ys.map Subtype.val = pc s2 s1 xs) (fun _ => True) (pc s2 s1 xs).length w := by
  intro l J Jx W hW hJ _ hY h0
  have hJ' : AbidesFrom W.heap.size (fun (pre : List Pz) V => ∃ pre' : List { x : Pz // x ∈ pc s2 s1 xs }, pre'.map Subtype.val = pre ∧ J pre' V) := by
    intro pre X Y row h hg hr
    obtain ⟨p, hp, hx⟩ := h
    exact ⟨p, hp, hJ p X Y row hx hg hr⟩
  refine (pieces1K n hn l Bs Bl K a c xs s1 s2 hm (fun pre V => ∃ pre' : List { x : Pz // x ∈ pc s2 s1 xs }, pre'.map Subtype.val = pre ∧ J pre' V) (fun pre V => ∃ pre' : List { x : Pz // x ∈ pc s2 s1 xs }, pre'.map Subtype.val = pre ∧ Jx pre' V) W hJ' ?_ ((hW.block Bs (Array.getElem?_eq_some_iff.1 hBs).1).trans hBs) (cell_below hBl hW) (hL.keep (.of_below hW)) ⟨[], rfl, h0⟩).mono ?_
  · rintro pre x W1 ⟨p, rfl, hp⟩ hlt hx
    obtain ⟨fn, tmps, assign, body, hy, hR⟩ := hY p ⟨x, hx⟩ W1 hp (by simpa using hlt)
    refine ⟨fn, tmps, assign, body, hy, hR.mono ?_⟩
    rintro e W' (⟨rfl, h2, h3⟩ | ⟨rfl, h2⟩)
    · exact .inl ⟨rfl, ⟨_, by simp, h2⟩, h3⟩
    · exact .inr ⟨rfl, ⟨_, by simp, h2⟩⟩
  · rintro e W' ⟨hv, ⟨ys, rfl, p, hp, h2⟩ | ⟨pre, _, p, _, h2⟩⟩
    · exact ⟨hv, .inl ⟨p, hp, h2⟩⟩
    · exact ⟨hv, .inr ⟨p, trivial, h2⟩⟩
theorem kpK_put {b N : Nat} {K : Nat → Prop} (hK : ∀ k, K k → k < N) (hb : b < N) (W : World) (l : Nat) (o o' : Obj) (hl : N ≤ l) (h : W.heap[l]? = some o) (h1 : o.isCells = false) (h2 : o.isWalk = false) : KpK K b W (W.putObj l o') :=
  ⟨⟨by simp [World.putObj], fun k hk _ => World.putObj_heap_other (by have := hK k hk; omega)⟩, World.putObj_heap_other (by omega)⟩

theorem copy_op2 {P : Program} {ops : Array Oper} {Q : Exit → Act → World → Prop} {i : Nat} {K : Act → World → Prop} {a : Act} {w : World} {o : Oper} (hi : ops[i]? = some o) (hgd : o.guard = none) (d s : Operand) (dT sT : TypeId)
    (hop : o.op = Op.call { callee := Callee.builtin Builtin.copy, args := #[d, s], argTypes := #[dT, sT] }) (elem : TypeId) (g of dLen dCap : Nat) (ad : Addr) (sLen sCap : Nat) (cur : Array Value) (t : TypeId) (cs : List Value)
    (hd : a.eval d = .slice (some ⟨g, of, none⟩) dLen dCap) (hs : a.eval s = .slice (some ad) sLen sCap) (hu : P.underlying dT = some (.slice elem)) (hz : (P.info? elem).map (·.size) = some 1)
    (hg : w.heap[g]? = some (.cells cur t (0, 0))) (hn : cs.length = Nat.min sLen dLen) (hsrc : ∀ j v, cs[j]? = some v → w.cell? (ad.add j) = some v) (hfit : of + cs.length ≤ cur.size) (h1 : ∀ v ∈ cs, v.oneCell' = true)
    (hK : K (a.put o.dst (goInt cs.length)) (w.setRow g (cur.toList.take of ++ cs ++ cur.toList.drop (of + cs.length)).toArray)) : wpOp P ops Q i K a w := by
  unfold wpOp
  simp only [hi]
  have hw : Region.wanted o (yielded ops a.tmps) = true := by simp [Region.wanted, hgd]
  rw [if_pos hw]
  left
  have hrun := run_copy_row P w dT sT o.type elem g of dLen dCap ad sLen sCap cur t cs hu hz hg hn hsrc hfit h1
  unfold Oper.wp
  simp [execOp, hop, resolve, invoke, builtin, hd, hs, hrun, Result.andThen]
  rw [List.append_assoc] at hK
  exact hK
theorem Tryd.info_u8 : (Tryd.prog.info? 5).map (·.size) = some 1 := by kernel_rfl

def ops10 : Array Oper := #[{ dst := some 37, op := Op.load 25 (Operand.tmp 3), type := 25, pos := "buffer.go:63", after := #[], guard := none },
  { dst := some 38, op := Op.nilCheck (Operand.tmp 37), type := 0, pos := "buffer.go:63", after := #[{ on := 0, ground := Ground.data }], guard := none },
  { dst := some 39, op := Op.fieldAddr 86 (Operand.tmp 38) 1, type := 0, pos := "buffer.go:63", after := #[{ on := 1, ground := Ground.data }], guard := none },
  { dst := some 40, op := Op.load 36 (Operand.tmp 39), type := 36, pos := "buffer.go:63", after := #[{ on := 2, ground := Ground.data }], guard := none },
  { dst := some 41, op := Op.move (Operand.tmp 10), type := 3, pos := "buffer.go:63", after := #[], guard := none },
  { dst := some 42, op := Op.indexAddr 36 (Operand.tmp 40) (Operand.tmp 41), type := 0, pos := "buffer.go:63", after := #[{ on := 3, ground := Ground.data }, { on := 4, ground := Ground.data }], guard := none },
  { dst := some 43, op := Op.load 5 (Operand.tmp 42), type := 5, pos := "buffer.go:63", after := #[{ on := 5, ground := Ground.data }], guard := none },
  { dst := some 44, op := Op.load 36 (Operand.tmp 5), type := 36, pos := "buffer.go:63", after := #[], guard := none },
  { dst := some 45, op := Op.move (Operand.tmp 10), type := 3, pos := "buffer.go:63", after := #[], guard := none },
  { dst := some 46, op := Op.load 3 (Operand.tmp 4), type := 3, pos := "buffer.go:63", after := #[], guard := none },
  { dst := some 47, op := Op.binOp BinOp.sub 3 (Operand.tmp 45) (Operand.tmp 46) 3, type := 3, pos := "buffer.go:63", after := #[{ on := 8, ground := Ground.data }, { on := 9, ground := Ground.data }], guard := none },
  { dst := some 48, op := Op.indexAddr 36 (Operand.tmp 44) (Operand.tmp 47), type := 0, pos := "buffer.go:63", after := #[{ on := 7, ground := Ground.data }, { on := 10, ground := Ground.data }], guard := none },
  { dst := some 49, op := Op.load 5 (Operand.tmp 48), type := 5, pos := "buffer.go:63", after := #[{ on := 11, ground := Ground.data }], guard := none },
  { dst := some 50, op := Op.binOp BinOp.neq 5 (Operand.tmp 43) (Operand.tmp 49) 5, type := 4, pos := "buffer.go:63", after := #[{ on := 6, ground := Ground.data }, { on := 12, ground := Ground.data }], guard := none }]
set_option maxRecDepth 100000 in
set_option maxHeartbeats 4000000 in
theorem reg10 (l n : Nat) (Q : Exit → Act → World → Prop) (hq : ¬ LetsOut Q) (hp : ∀ c a a' w, Q (.panic c) a w → Q (.panic c) a' w) (P3 P4 P5 Bb gb nb cb gd od nd cd k m : Nat) (at' x y : Int) (r : Bool) {t0 t1 t2 t6 t7 t8 t9 t11 t12 t13 t14 t15 t16 t17 t18 t19 t20 t21 t22 t23 t24 t25 t26 t27 t28 t29 t30 t31 t32 t33 t34 t35 t36 t37 t38 t39 t40 t41 t42 t43 t44 t45 t46 t47 t48 t49 t50 t51 t52 t53 : Value} (W : World)
    (hkb : (k : Int) < (nb : Int)) (hmd : (m : Int) < (nd : Int)) (hw : IntKind.i64.wrap ((k : Int) - at') = (m : Int)) (hr : (x != y) = r)
    (hS : W.drew.cell? ⟨P3, 0, none⟩ = some (.pointer (some ⟨Bb, 0, none⟩)) ∧ W.drew.cell? ⟨P4, 0, none⟩ = some (.int .i64 at') ∧ W.drew.cell? ⟨P5, 0, none⟩ = some (.slice (some ⟨gd, od, none⟩) nd cd) ∧ W.drew.cell? ⟨Bb, 1, none⟩ = some (.slice (some ⟨gb, 0, none⟩) nb cb) ∧ W.drew.cell? ⟨gb, k, none⟩ = some (.int .u8 x) ∧ W.drew.cell? ⟨gd, od + m, none⟩ = some (.int .u8 y))
    (h : Q .normal { tmps := #[t0, t1, t2, .pointer (some ⟨P3, 0, none⟩), .pointer (some ⟨P4, 0, none⟩), .pointer (some ⟨P5, 0, none⟩), t6, t7, t8, t9, .int .i64 (k : Int), t11, t12, t13, t14, t15, t16, t17, t18, t19, t20, t21, t22, t23, t24, t25, t26, t27, t28, t29, t30, t31, t32, t33, t34, t35, t36, .pointer (some ⟨Bb, 0, none⟩), .pointer (some ⟨Bb, 0, none⟩), .pointer (some ⟨Bb, 1, none⟩), .slice (some ⟨gb, 0, none⟩) nb cb, .int .i64 (k : Int), .pointer (some ⟨gb, k, none⟩), .int .u8 x, .slice (some ⟨gd, od, none⟩) nd cd, .int .i64 (k : Int), .int .i64 at', .int .i64 (m : Int), .pointer (some ⟨gd, od + m, none⟩), .int .u8 y, .bool r, t51, t52, t53], defers := [] } W.drew) :
    (Code.region 10 ops10 true).wpIn (Fence.wide.inRound l) n Tryd.prog Q { tmps := #[t0, t1, t2, .pointer (some ⟨P3, 0, none⟩), .pointer (some ⟨P4, 0, none⟩), .pointer (some ⟨P5, 0, none⟩), t6, t7, t8, t9, .int .i64 (k : Int), t11, t12, t13, t14, t15, t16, t17, t18, t19, t20, t21, t22, t23, t24, t25, t26, t27, t28, t29, t30, t31, t32, t33, t34, t35, t36, t37, t38, t39, t40, t41, t42, t43, t44, t45, t46, t47, t48, t49, t50, t51, t52, t53], defers := [] } W := by
  refine wpIn_region_round (fun V => V.cell? ⟨P3, 0, none⟩ = some (.pointer (some ⟨Bb, 0, none⟩)) ∧ V.cell? ⟨P4, 0, none⟩ = some (.int .i64 at') ∧ V.cell? ⟨P5, 0, none⟩ = some (.slice (some ⟨gd, od, none⟩) nd cd) ∧ V.cell? ⟨Bb, 1, none⟩ = some (.slice (some ⟨gb, 0, none⟩) nb cb) ∧ V.cell? ⟨gb, k, none⟩ = some (.int .u8 x) ∧ V.cell? ⟨gd, od + m, none⟩ = some (.int .u8 y)) (by kernel_rfl) (by kernel_rfl) hq ?_
  change wpAnyH _ _ _ _ _ _ _ _ W.drew
  refine wpAnyH_take (i := 0) (oi := { dst := some 37, op := Op.load 25 (Operand.tmp 3), type := 25, pos := "buffer.go:63", after := #[], guard := none }) (v := .pointer (some ⟨Bb, 0, none⟩)) rfl (by kernel_rfl) (by kernel_rfl) (by kernel_rfl) (fun _ _ _ h => hp _ _ _ _ h) (.inl ⟨by kernel_rfl, fun V hV => ?_⟩) hS ?_
  · obtain ⟨s0, s1, s2, s3, s4, s5⟩ := hV
    go_simp
  simp only [Act.put, List.setIfInBounds_toArray, List.set_cons_zero, List.set_cons_succ]
  refine wpAnyH_take (i := 1) (oi := { dst := some 38, op := Op.nilCheck (Operand.tmp 37), type := 0, pos := "buffer.go:63", after := #[{ on := 0, ground := Ground.data }], guard := none }) (v := .pointer (some ⟨Bb, 0, none⟩)) rfl (by kernel_rfl) (by kernel_rfl) (by kernel_rfl) (fun _ _ _ h => hp _ _ _ _ h) (.inl ⟨by kernel_rfl, fun V hV => ?_⟩) hS ?_
  · obtain ⟨s0, s1, s2, s3, s4, s5⟩ := hV
    go_simp
  simp only [Act.put, List.setIfInBounds_toArray, List.set_cons_zero, List.set_cons_succ]
  refine wpAnyH_take (i := 2) (oi := { dst := some 39, op := Op.fieldAddr 86 (Operand.tmp 38) 1, type := 0, pos := "buffer.go:63", after := #[{ on := 1, ground := Ground.data }], guard := none }) (v := .pointer (some ⟨Bb, 1, none⟩)) rfl (by kernel_rfl) (by kernel_rfl) (by kernel_rfl) (fun _ _ _ h => hp _ _ _ _ h) (.inl ⟨by kernel_rfl, fun V hV => ?_⟩) hS ?_
  · obtain ⟨s0, s1, s2, s3, s4, s5⟩ := hV
    go_simp
  simp only [Act.put, List.setIfInBounds_toArray, List.set_cons_zero, List.set_cons_succ]
  refine wpAnyH_take (i := 3) (oi := { dst := some 40, op := Op.load 36 (Operand.tmp 39), type := 36, pos := "buffer.go:63", after := #[{ on := 2, ground := Ground.data }], guard := none }) (v := .slice (some ⟨gb, 0, none⟩) nb cb) rfl (by kernel_rfl) (by kernel_rfl) (by kernel_rfl) (fun _ _ _ h => hp _ _ _ _ h) (.inl ⟨by kernel_rfl, fun V hV => ?_⟩) hS ?_
  · obtain ⟨s0, s1, s2, s3, s4, s5⟩ := hV
    go_simp
  simp only [Act.put, List.setIfInBounds_toArray, List.set_cons_zero, List.set_cons_succ]
  refine wpAnyH_take (i := 4) (oi := { dst := some 41, op := Op.move (Operand.tmp 10), type := 3, pos := "buffer.go:63", after := #[], guard := none }) (v := .int .i64 (k : Int)) rfl (by kernel_rfl) (by kernel_rfl) (by kernel_rfl) (fun _ _ _ h => hp _ _ _ _ h) (.inl ⟨by kernel_rfl, fun V hV => ?_⟩) hS ?_
  · obtain ⟨s0, s1, s2, s3, s4, s5⟩ := hV
    go_simp
  simp only [Act.put, List.setIfInBounds_toArray, List.set_cons_zero, List.set_cons_succ]
  refine wpAnyH_take (i := 5) (oi := { dst := some 42, op := Op.indexAddr 36 (Operand.tmp 40) (Operand.tmp 41), type := 0, pos := "buffer.go:63", after := #[{ on := 3, ground := Ground.data }, { on := 4, ground := Ground.data }], guard := none }) (v := .pointer (some ⟨gb, k, none⟩)) rfl (by kernel_rfl) (by kernel_rfl) (by kernel_rfl) (fun _ _ _ h => hp _ _ _ _ h) (.inl ⟨by kernel_rfl, fun V hV => ?_⟩) hS ?_
  · obtain ⟨s0, s1, s2, s3, s4, s5⟩ := hV
    go_simp
  simp only [Act.put, List.setIfInBounds_toArray, List.set_cons_zero, List.set_cons_succ]
  refine wpAnyH_take (i := 6) (oi := { dst := some 43, op := Op.load 5 (Operand.tmp 42), type := 5, pos := "buffer.go:63", after := #[{ on := 5, ground := Ground.data }], guard := none }) (v := .int .u8 x) rfl (by kernel_rfl) (by kernel_rfl) (by kernel_rfl) (fun _ _ _ h => hp _ _ _ _ h) (.inl ⟨by kernel_rfl, fun V hV => ?_⟩) hS ?_
  · obtain ⟨s0, s1, s2, s3, s4, s5⟩ := hV
    go_simp
  simp only [Act.put, List.setIfInBounds_toArray, List.set_cons_zero, List.set_cons_succ]
  refine wpAnyH_take (i := 7) (oi := { dst := some 44, op := Op.load 36 (Operand.tmp 5), type := 36, pos := "buffer.go:63", after := #[], guard := none }) (v := .slice (some ⟨gd, od, none⟩) nd cd) rfl (by kernel_rfl) (by kernel_rfl) (by kernel_rfl) (fun _ _ _ h => hp _ _ _ _ h) (.inl ⟨by kernel_rfl, fun V hV => ?_⟩) hS ?_
  · obtain ⟨s0, s1, s2, s3, s4, s5⟩ := hV
    go_simp
  simp only [Act.put, List.setIfInBounds_toArray, List.set_cons_zero, List.set_cons_succ]
  refine wpAnyH_take (i := 8) (oi := { dst := some 45, op := Op.move (Operand.tmp 10), type := 3, pos := "buffer.go:63", after := #[], guard := none }) (v := .int .i64 (k : Int)) rfl (by kernel_rfl) (by kernel_rfl) (by kernel_rfl) (fun _ _ _ h => hp _ _ _ _ h) (.inl ⟨by kernel_rfl, fun V hV => ?_⟩) hS ?_
  · obtain ⟨s0, s1, s2, s3, s4, s5⟩ := hV
    go_simp
  simp only [Act.put, List.setIfInBounds_toArray, List.set_cons_zero, List.set_cons_succ]
  refine wpAnyH_take (i := 9) (oi := { dst := some 46, op := Op.load 3 (Operand.tmp 4), type := 3, pos := "buffer.go:63", after := #[], guard := none }) (v := .int .i64 at') rfl (by kernel_rfl) (by kernel_rfl) (by kernel_rfl) (fun _ _ _ h => hp _ _ _ _ h) (.inl ⟨by kernel_rfl, fun V hV => ?_⟩) hS ?_
  · obtain ⟨s0, s1, s2, s3, s4, s5⟩ := hV
    go_simp
  simp only [Act.put, List.setIfInBounds_toArray, List.set_cons_zero, List.set_cons_succ]
  refine wpAnyH_take (i := 10) (oi := { dst := some 47, op := Op.binOp BinOp.sub 3 (Operand.tmp 45) (Operand.tmp 46) 3, type := 3, pos := "buffer.go:63", after := #[{ on := 8, ground := Ground.data }, { on := 9, ground := Ground.data }], guard := none }) (v := .int .i64 (m : Int)) rfl (by kernel_rfl) (by kernel_rfl) (by kernel_rfl) (fun _ _ _ h => hp _ _ _ _ h) (.inl ⟨by kernel_rfl, fun V hV => ?_⟩) hS ?_
  · obtain ⟨s0, s1, s2, s3, s4, s5⟩ := hV
    go_simp
  simp only [Act.put, List.setIfInBounds_toArray, List.set_cons_zero, List.set_cons_succ]
  refine wpAnyH_take (i := 11) (oi := { dst := some 48, op := Op.indexAddr 36 (Operand.tmp 44) (Operand.tmp 47), type := 0, pos := "buffer.go:63", after := #[{ on := 7, ground := Ground.data }, { on := 10, ground := Ground.data }], guard := none }) (v := .pointer (some ⟨gd, od + m, none⟩)) rfl (by kernel_rfl) (by kernel_rfl) (by kernel_rfl) (fun _ _ _ h => hp _ _ _ _ h) (.inl ⟨by kernel_rfl, fun V hV => ?_⟩) hS ?_
  · obtain ⟨s0, s1, s2, s3, s4, s5⟩ := hV
    go_simp
  simp only [Act.put, List.setIfInBounds_toArray, List.set_cons_zero, List.set_cons_succ]
  refine wpAnyH_take (i := 12) (oi := { dst := some 49, op := Op.load 5 (Operand.tmp 48), type := 5, pos := "buffer.go:63", after := #[{ on := 11, ground := Ground.data }], guard := none }) (v := .int .u8 y) rfl (by kernel_rfl) (by kernel_rfl) (by kernel_rfl) (fun _ _ _ h => hp _ _ _ _ h) (.inl ⟨by kernel_rfl, fun V hV => ?_⟩) hS ?_
  · obtain ⟨s0, s1, s2, s3, s4, s5⟩ := hV
    go_simp
  simp only [Act.put, List.setIfInBounds_toArray, List.set_cons_zero, List.set_cons_succ]
  refine wpAnyH_take (i := 13) (oi := { dst := some 50, op := Op.binOp BinOp.neq 5 (Operand.tmp 43) (Operand.tmp 49) 5, type := 4, pos := "buffer.go:63", after := #[{ on := 6, ground := Ground.data }, { on := 12, ground := Ground.data }], guard := none }) (v := .bool r) rfl (by kernel_rfl) (by kernel_rfl) (by kernel_rfl) (fun _ _ _ h => hp _ _ _ _ h) (.inl ⟨by kernel_rfl, fun V hV => ?_⟩) hS ?_
  · obtain ⟨s0, s1, s2, s3, s4, s5⟩ := hV
    go_simp
  simp only [Act.put, List.setIfInBounds_toArray, List.set_cons_zero, List.set_cons_succ]
  exact wpAnyH_done (by kernel_rfl) h _

def ops9 : Array Oper := #[{ dst := some 46, op := Op.load 25 (Operand.tmp 3), type := 25, pos := "buffer.go:81", after := #[], guard := none },
  { dst := some 47, op := Op.nilCheck (Operand.tmp 46), type := 0, pos := "buffer.go:81", after := #[{ on := 0, ground := Ground.data }], guard := none },
  { dst := some 48, op := Op.fieldAddr 86 (Operand.tmp 47) 1, type := 0, pos := "buffer.go:81", after := #[{ on := 1, ground := Ground.data }], guard := none },
  { dst := some 49, op := Op.load 36 (Operand.tmp 48), type := 36, pos := "buffer.go:81", after := #[{ on := 2, ground := Ground.data }], guard := none },
  { dst := some 50, op := Op.fieldAddr 38 (Operand.tmp 7) 0, type := 0, pos := "buffer.go:81", after := #[], guard := none },
  { dst := some 51, op := Op.load 3 (Operand.tmp 50), type := 3, pos := "buffer.go:81", after := #[{ on := 4, ground := Ground.data }], guard := none },
  { dst := some 52, op := Op.fieldAddr 38 (Operand.tmp 7) 1, type := 0, pos := "buffer.go:81", after := #[], guard := none },
  { dst := some 53, op := Op.load 3 (Operand.tmp 52), type := 3, pos := "buffer.go:81", after := #[{ on := 6, ground := Ground.data }], guard := none },
  { dst := some 54, op := Op.slice 36 (Operand.tmp 49) (some (Operand.tmp 51)) (some (Operand.tmp 53)) none, type := 36, pos := "buffer.go:81", after := #[{ on := 3, ground := Ground.data }, { on := 5, ground := Ground.data }, { on := 7, ground := Ground.data }], guard := none },
  { dst := some 55, op := Op.load 36 (Operand.tmp 5), type := 36, pos := "buffer.go:81", after := #[], guard := none },
  { dst := some 56, op := Op.fieldAddr 38 (Operand.tmp 7) 0, type := 0, pos := "buffer.go:81", after := #[], guard := none },
  { dst := some 57, op := Op.load 3 (Operand.tmp 56), type := 3, pos := "buffer.go:81", after := #[{ on := 10, ground := Ground.data }], guard := none },
  { dst := some 58, op := Op.load 3 (Operand.tmp 4), type := 3, pos := "buffer.go:81", after := #[], guard := none },
  { dst := some 59, op := Op.binOp BinOp.sub 3 (Operand.tmp 57) (Operand.tmp 58) 3, type := 3, pos := "buffer.go:81", after := #[{ on := 11, ground := Ground.data }, { on := 12, ground := Ground.data }], guard := none },
  { dst := some 60, op := Op.slice 36 (Operand.tmp 55) (some (Operand.tmp 59)) none none, type := 36, pos := "buffer.go:81", after := #[{ on := 9, ground := Ground.data }, { on := 13, ground := Ground.data }], guard := none },
  { dst := some 61, op := Op.call { callee := Callee.builtin Builtin.copy, args := #[Operand.tmp 54, Operand.tmp 60], argTypes := #[36, 36] }, type := 3, pos := "buffer.go:81", after := #[{ on := 8, ground := Ground.data }, { on := 14, ground := Ground.data }], guard := none }]
set_option maxRecDepth 100000 in
set_option maxHeartbeats 4000000 in
theorem reg9 (l n : Nat) (Q : Exit → Act → World → Prop) (hq : ¬ LetsOut Q) (hp : ∀ c a a' w, Q (.panic c) a w → Q (.panic c) a' w) (P3 P4 P5 Bb Bx gb nb cb gd od nd cd f t m : Nat) (at' : Int) {t0 t1 t2 t6 t8 t9 t10 t11 t12 t13 t14 t15 t16 t17 t18 t19 t20 t21 t22 t23 t24 t25 t26 t27 t28 t29 t30 t31 t32 t33 t34 t35 t36 t37 t38 t39 t40 t41 t42 t43 t44 t45 t46 t47 t48 t49 t50 t51 t52 t53 t54 t55 t56 t57 t58 t59 t60 t61 : Value} (W : World) (cur : Array Value) (cs : List Value)
    (hft : f < t) (htb : t ≤ nb) (hbc : nb ≤ cb) (hcm : cb ≤ 9223372036854775807) (hmd : m < nd) (hdc : nd ≤ cd) (hdm : cd ≤ 9223372036854775807) (hw : IntKind.i64.wrap ((f : Int) - at') = (m : Int)) (hfm : t - f ≤ nd - m)
    (hgb : W.heap[gb]? = some (.cells cur 5 (0, 0))) (hcs : cs.length = t - f) (hsrc : ∀ j v, cs[j]? = some v → W.drew.cell? ((⟨gd, od + m, none⟩ : Addr).add j) = some v) (hcur : t ≤ cur.size) (h1 : ∀ v ∈ cs, v.oneCell' = true)
    (hd : P3 ≠ gb ∧ P4 ≠ gb ∧ P5 ≠ gb ∧ Bb ≠ gb ∧ Bx ≠ gb)
    (hS : W.drew.cell? ⟨P3, 0, none⟩ = some (.pointer (some ⟨Bb, 0, none⟩)) ∧ W.drew.cell? ⟨P4, 0, none⟩ = some (.int .i64 at') ∧ W.drew.cell? ⟨P5, 0, none⟩ = some (.slice (some ⟨gd, od, none⟩) nd cd) ∧ W.drew.cell? ⟨Bb, 1, none⟩ = some (.slice (some ⟨gb, 0, none⟩) nb cb) ∧ W.drew.cell? ⟨Bx, 0, none⟩ = some (.int .i64 (f : Int)) ∧ W.drew.cell? ⟨Bx, 1, none⟩ = some (.int .i64 (t : Int)))
    (h : Q .normal { tmps := #[t0, t1, t2, .pointer (some ⟨P3, 0, none⟩), .pointer (some ⟨P4, 0, none⟩), .pointer (some ⟨P5, 0, none⟩), t6, .pointer (some ⟨Bx, 0, none⟩), t8, t9, t10, t11, t12, t13, t14, t15, t16, t17, t18, t19, t20, t21, t22, t23, t24, t25, t26, t27, t28, t29, t30, t31, t32, t33, t34, t35, t36, t37, t38, t39, t40, t41, t42, t43, t44, t45, .pointer (some ⟨Bb, 0, none⟩), .pointer (some ⟨Bb, 0, none⟩), .pointer (some ⟨Bb, 1, none⟩), .slice (some ⟨gb, 0, none⟩) nb cb, .pointer (some ⟨Bx, 0, none⟩), .int .i64 (f : Int), .pointer (some ⟨Bx, 1, none⟩), .int .i64 (t : Int), .slice (some ⟨gb, f, none⟩) (t - f) (cb - f), .slice (some ⟨gd, od, none⟩) nd cd, .pointer (some ⟨Bx, 0, none⟩), .int .i64 (f : Int), .int .i64 at', .int .i64 (m : Int), .slice (some ⟨gd, od + m, none⟩) (nd - m) (cd - m), goInt ((t - f : Nat) : Int)], defers := [] } (W.drew.setRow gb (cur.toList.take f ++ cs ++ cur.toList.drop (f + cs.length)).toArray)) :
    (Code.region 9 ops9 true).wpIn (Fence.wide.inRound l) n Tryd.prog Q { tmps := #[t0, t1, t2, .pointer (some ⟨P3, 0, none⟩), .pointer (some ⟨P4, 0, none⟩), .pointer (some ⟨P5, 0, none⟩), t6, .pointer (some ⟨Bx, 0, none⟩), t8, t9, t10, t11, t12, t13, t14, t15, t16, t17, t18, t19, t20, t21, t22, t23, t24, t25, t26, t27, t28, t29, t30, t31, t32, t33, t34, t35, t36, t37, t38, t39, t40, t41, t42, t43, t44, t45, t46, t47, t48, t49, t50, t51, t52, t53, t54, t55, t56, t57, t58, t59, t60, t61], defers := [] } W := by
  refine wpIn_region_round (fun V => V.cell? ⟨P3, 0, none⟩ = some (.pointer (some ⟨Bb, 0, none⟩)) ∧ V.cell? ⟨P4, 0, none⟩ = some (.int .i64 at') ∧ V.cell? ⟨P5, 0, none⟩ = some (.slice (some ⟨gd, od, none⟩) nd cd) ∧ V.cell? ⟨Bb, 1, none⟩ = some (.slice (some ⟨gb, 0, none⟩) nb cb) ∧ V.cell? ⟨Bx, 0, none⟩ = some (.int .i64 (f : Int)) ∧ V.cell? ⟨Bx, 1, none⟩ = some (.int .i64 (t : Int))) (by kernel_rfl) (by kernel_rfl) hq ?_
  change wpAnyH _ _ _ _ _ _ _ _ W.drew
  have hfi : f ≤ t := by omega
  have hti : t ≤ cb := by omega
  have hne : ¬ cb = f := by omega
  have hne2 : ¬ cd = m := by omega
  have hmi : m ≤ nd := by omega
  refine wpAnyH_take (i := 0) (oi := { dst := some 46, op := Op.load 25 (Operand.tmp 3), type := 25, pos := "buffer.go:81", after := #[], guard := none }) (v := .pointer (some ⟨Bb, 0, none⟩)) rfl (by kernel_rfl) (by kernel_rfl) (by kernel_rfl) (fun _ _ _ h => hp _ _ _ _ h) (.inl ⟨by kernel_rfl, fun V hV => ?_⟩) hS ?_
  · obtain ⟨s0, s1, s2, s3, s4, s5⟩ := hV
    go_simp
  simp only [Act.put, List.setIfInBounds_toArray, List.set_cons_zero, List.set_cons_succ]
  refine wpAnyH_take (i := 1) (oi := { dst := some 47, op := Op.nilCheck (Operand.tmp 46), type := 0, pos := "buffer.go:81", after := #[{ on := 0, ground := Ground.data }], guard := none }) (v := .pointer (some ⟨Bb, 0, none⟩)) rfl (by kernel_rfl) (by kernel_rfl) (by kernel_rfl) (fun _ _ _ h => hp _ _ _ _ h) (.inl ⟨by kernel_rfl, fun V hV => ?_⟩) hS ?_
  · obtain ⟨s0, s1, s2, s3, s4, s5⟩ := hV
    go_simp
  simp only [Act.put, List.setIfInBounds_toArray, List.set_cons_zero, List.set_cons_succ]
  refine wpAnyH_take (i := 2) (oi := { dst := some 48, op := Op.fieldAddr 86 (Operand.tmp 47) 1, type := 0, pos := "buffer.go:81", after := #[{ on := 1, ground := Ground.data }], guard := none }) (v := .pointer (some ⟨Bb, 1, none⟩)) rfl (by kernel_rfl) (by kernel_rfl) (by kernel_rfl) (fun _ _ _ h => hp _ _ _ _ h) (.inl ⟨by kernel_rfl, fun V hV => ?_⟩) hS ?_
  · obtain ⟨s0, s1, s2, s3, s4, s5⟩ := hV
    go_simp
  simp only [Act.put, List.setIfInBounds_toArray, List.set_cons_zero, List.set_cons_succ]
  refine wpAnyH_take (i := 3) (oi := { dst := some 49, op := Op.load 36 (Operand.tmp 48), type := 36, pos := "buffer.go:81", after := #[{ on := 2, ground := Ground.data }], guard := none }) (v := .slice (some ⟨gb, 0, none⟩) nb cb) rfl (by kernel_rfl) (by kernel_rfl) (by kernel_rfl) (fun _ _ _ h => hp _ _ _ _ h) (.inl ⟨by kernel_rfl, fun V hV => ?_⟩) hS ?_
  · obtain ⟨s0, s1, s2, s3, s4, s5⟩ := hV
    go_simp
  simp only [Act.put, List.setIfInBounds_toArray, List.set_cons_zero, List.set_cons_succ]
  refine wpAnyH_take (i := 4) (oi := { dst := some 50, op := Op.fieldAddr 38 (Operand.tmp 7) 0, type := 0, pos := "buffer.go:81", after := #[], guard := none }) (v := .pointer (some ⟨Bx, 0, none⟩)) rfl (by kernel_rfl) (by kernel_rfl) (by kernel_rfl) (fun _ _ _ h => hp _ _ _ _ h) (.inl ⟨by kernel_rfl, fun V hV => ?_⟩) hS ?_
  · obtain ⟨s0, s1, s2, s3, s4, s5⟩ := hV
    go_simp
  simp only [Act.put, List.setIfInBounds_toArray, List.set_cons_zero, List.set_cons_succ]
  refine wpAnyH_take (i := 5) (oi := { dst := some 51, op := Op.load 3 (Operand.tmp 50), type := 3, pos := "buffer.go:81", after := #[{ on := 4, ground := Ground.data }], guard := none }) (v := .int .i64 (f : Int)) rfl (by kernel_rfl) (by kernel_rfl) (by kernel_rfl) (fun _ _ _ h => hp _ _ _ _ h) (.inl ⟨by kernel_rfl, fun V hV => ?_⟩) hS ?_
  · obtain ⟨s0, s1, s2, s3, s4, s5⟩ := hV
    go_simp
  simp only [Act.put, List.setIfInBounds_toArray, List.set_cons_zero, List.set_cons_succ]
  refine wpAnyH_take (i := 6) (oi := { dst := some 52, op := Op.fieldAddr 38 (Operand.tmp 7) 1, type := 0, pos := "buffer.go:81", after := #[], guard := none }) (v := .pointer (some ⟨Bx, 1, none⟩)) rfl (by kernel_rfl) (by kernel_rfl) (by kernel_rfl) (fun _ _ _ h => hp _ _ _ _ h) (.inl ⟨by kernel_rfl, fun V hV => ?_⟩) hS ?_
  · obtain ⟨s0, s1, s2, s3, s4, s5⟩ := hV
    go_simp
  simp only [Act.put, List.setIfInBounds_toArray, List.set_cons_zero, List.set_cons_succ]
  refine wpAnyH_take (i := 7) (oi := { dst := some 53, op := Op.load 3 (Operand.tmp 52), type := 3, pos := "buffer.go:81", after := #[{ on := 6, ground := Ground.data }], guard := none }) (v := .int .i64 (t : Int)) rfl (by kernel_rfl) (by kernel_rfl) (by kernel_rfl) (fun _ _ _ h => hp _ _ _ _ h) (.inl ⟨by kernel_rfl, fun V hV => ?_⟩) hS ?_
  · obtain ⟨s0, s1, s2, s3, s4, s5⟩ := hV
    go_simp
  simp only [Act.put, List.setIfInBounds_toArray, List.set_cons_zero, List.set_cons_succ]
  refine wpAnyH_take (i := 8) (oi := { dst := some 54, op := Op.slice 36 (Operand.tmp 49) (some (Operand.tmp 51)) (some (Operand.tmp 53)) none, type := 36, pos := "buffer.go:81", after := #[{ on := 3, ground := Ground.data }, { on := 5, ground := Ground.data }, { on := 7, ground := Ground.data }], guard := none }) (v := .slice (some ⟨gb, f, none⟩) (t - f) (cb - f)) rfl (by kernel_rfl) (by kernel_rfl) (by kernel_rfl) (fun _ _ _ h => hp _ _ _ _ h) (.inl ⟨by kernel_rfl, fun V hV => ?_⟩) hS ?_
  · obtain ⟨s0, s1, s2, s3, s4, s5⟩ := hV
    go_simp
  simp only [Act.put, List.setIfInBounds_toArray, List.set_cons_zero, List.set_cons_succ]
  refine wpAnyH_take (i := 9) (oi := { dst := some 55, op := Op.load 36 (Operand.tmp 5), type := 36, pos := "buffer.go:81", after := #[], guard := none }) (v := .slice (some ⟨gd, od, none⟩) nd cd) rfl (by kernel_rfl) (by kernel_rfl) (by kernel_rfl) (fun _ _ _ h => hp _ _ _ _ h) (.inl ⟨by kernel_rfl, fun V hV => ?_⟩) hS ?_
  · obtain ⟨s0, s1, s2, s3, s4, s5⟩ := hV
    go_simp
  simp only [Act.put, List.setIfInBounds_toArray, List.set_cons_zero, List.set_cons_succ]
  refine wpAnyH_take (i := 10) (oi := { dst := some 56, op := Op.fieldAddr 38 (Operand.tmp 7) 0, type := 0, pos := "buffer.go:81", after := #[], guard := none }) (v := .pointer (some ⟨Bx, 0, none⟩)) rfl (by kernel_rfl) (by kernel_rfl) (by kernel_rfl) (fun _ _ _ h => hp _ _ _ _ h) (.inl ⟨by kernel_rfl, fun V hV => ?_⟩) hS ?_
  · obtain ⟨s0, s1, s2, s3, s4, s5⟩ := hV
    go_simp
  simp only [Act.put, List.setIfInBounds_toArray, List.set_cons_zero, List.set_cons_succ]
  refine wpAnyH_take (i := 11) (oi := { dst := some 57, op := Op.load 3 (Operand.tmp 56), type := 3, pos := "buffer.go:81", after := #[{ on := 10, ground := Ground.data }], guard := none }) (v := .int .i64 (f : Int)) rfl (by kernel_rfl) (by kernel_rfl) (by kernel_rfl) (fun _ _ _ h => hp _ _ _ _ h) (.inl ⟨by kernel_rfl, fun V hV => ?_⟩) hS ?_
  · obtain ⟨s0, s1, s2, s3, s4, s5⟩ := hV
    go_simp
  simp only [Act.put, List.setIfInBounds_toArray, List.set_cons_zero, List.set_cons_succ]
  refine wpAnyH_take (i := 12) (oi := { dst := some 58, op := Op.load 3 (Operand.tmp 4), type := 3, pos := "buffer.go:81", after := #[], guard := none }) (v := .int .i64 at') rfl (by kernel_rfl) (by kernel_rfl) (by kernel_rfl) (fun _ _ _ h => hp _ _ _ _ h) (.inl ⟨by kernel_rfl, fun V hV => ?_⟩) hS ?_
  · obtain ⟨s0, s1, s2, s3, s4, s5⟩ := hV
    go_simp
  simp only [Act.put, List.setIfInBounds_toArray, List.set_cons_zero, List.set_cons_succ]
  refine wpAnyH_take (i := 13) (oi := { dst := some 59, op := Op.binOp BinOp.sub 3 (Operand.tmp 57) (Operand.tmp 58) 3, type := 3, pos := "buffer.go:81", after := #[{ on := 11, ground := Ground.data }, { on := 12, ground := Ground.data }], guard := none }) (v := .int .i64 (m : Int)) rfl (by kernel_rfl) (by kernel_rfl) (by kernel_rfl) (fun _ _ _ h => hp _ _ _ _ h) (.inl ⟨by kernel_rfl, fun V hV => ?_⟩) hS ?_
  · obtain ⟨s0, s1, s2, s3, s4, s5⟩ := hV
    go_simp
  simp only [Act.put, List.setIfInBounds_toArray, List.set_cons_zero, List.set_cons_succ]
  refine wpAnyH_take (i := 14) (oi := { dst := some 60, op := Op.slice 36 (Operand.tmp 55) (some (Operand.tmp 59)) none none, type := 36, pos := "buffer.go:81", after := #[{ on := 9, ground := Ground.data }, { on := 13, ground := Ground.data }], guard := none }) (v := .slice (some ⟨gd, od + m, none⟩) (nd - m) (cd - m)) rfl (by kernel_rfl) (by kernel_rfl) (by kernel_rfl) (fun _ _ _ h => hp _ _ _ _ h) (.inl ⟨by kernel_rfl, fun V hV => ?_⟩) hS ?_
  · obtain ⟨s0, s1, s2, s3, s4, s5⟩ := hV
    go_simp
  simp only [Act.put, List.setIfInBounds_toArray, List.set_cons_zero, List.set_cons_succ]
  refine wpAnyH_all (rs := [15]) (by kernel_rfl) (by simp) ?_
  intro i hi
  obtain rfl : i = 15 := by simpa using hi
  refine copy_op2 (i := 15) (o := { dst := some 61, op := Op.call { callee := Callee.builtin Builtin.copy, args := #[Operand.tmp 54, Operand.tmp 60], argTypes := #[36, 36] }, type := 3, pos := "buffer.go:81", after := #[{ on := 8, ground := Ground.data }, { on := 14, ground := Ground.data }], guard := none }) rfl rfl (.tmp 54) (.tmp 60) 36 36 rfl 5 gb f (t - f) (cb - f) ⟨gd, od + m, none⟩ (nd - m) (cd - m) cur 5 cs (by simp [Act.eval]) (by simp [Act.eval]) Tryd.underlying36 Tryd.info_u8 hgb (by show cs.length = min (nd - m) (t - f); omega) hsrc (by omega) h1 ?_
  have hgne : ∀ b, b ≠ gb → ∀ (cs' : Array Value) (j : Nat), (W.drew.setRow gb cs').cell? ⟨b, j, none⟩ = W.drew.cell? ⟨b, j, none⟩ := fun b hb cs' j => cell_setRow_other _ _ _ _ hb
  obtain ⟨s0, s1, s2, s3, s4, s5⟩ := hS
  obtain ⟨d0, d1, d2, d3, d4⟩ := hd
  refine ⟨⟨(hgne _ d0 _ _).trans s0, (hgne _ d1 _ _).trans s1, (hgne _ d2 _ _).trans s2, (hgne _ d3 _ _).trans s3, (hgne _ d4 _ _).trans s4, (hgne _ d4 _ _).trans s5⟩, wpAnyH_done (by kernel_rfl) ?_ _⟩
  simp only [Act.put, List.setIfInBounds_toArray, List.set_cons_zero, List.set_cons_succ]
  rw [show goInt cs.length = goInt ((t - f : Nat) : Int) from by rw [hcs]]
  exact h

end Go.Proofs.YthkphihgdklbbaaDoor.C

namespace Go.Proofs.YthkphihgdklbbaaDoor.C
open Go.RowKit Go.Shelf
attribute [local go_sem] Oper.semAt_some
set_option linter.unusedVariables false

theorem heapB {W : World} {i : Nat} {o : Obj} (h : W.heap[i]? = some o) (ob : Obj) : (W.alloc ob).heap[i]? = some o :=
  (Below.heap_alloc W ob i (by obtain ⟨hi, _⟩ := Array.getElem?_eq_some_iff.mp h; exact hi)).trans h
/-- An outcome that is no panic. -/
def calmB (Q : Exit → Act → World → Prop) : Exit → Act → World → Prop
  | .panic _, _, _ => False
  | e, a, w => Q e a w
theorem calmB_le {Q : Exit → Act → World → Prop} {e : Exit} {a : Act} {w : World} (h : calmB Q e a w) : Q e a w := by
  cases e <;> first | exact h | exact h.elim

/-- The same but for the heap. -/
def Ox (w w' : World) : Prop := w'.os = w.os ∧ w'.tape = w.tape ∧ w'.output = w.output
theorem Ox.refl (w : World) : Ox w w := ⟨rfl, rfl, rfl⟩
theorem Ox.trans {a b c : World} (h : Ox a b) (h' : Ox b c) : Ox a c := ⟨h'.1.trans h.1, h'.2.1.trans h.2.1, h'.2.2.trans h.2.2⟩
theorem Ox.bel {B : Nat} {a b : World} (h : Below B a b) : Ox a b := ⟨h.os, h.tape, h.output⟩
theorem Ox.gro {r : Option Nat} {a b : World} (h : a.grownBy b r) : Ox a b := ⟨h.os, h.tape, h.output⟩
theorem own_same0 {w w' : World} {base size n : Nat} {e : TypeId} {v : Value} {xs : List Value} (h : w.ownsRow base e size v n xs) (hg : ∀ k, v.ownBlock = some k → w'.heap[k]? = w.heap[k]?) : w'.ownsRow base e size v n xs := by
  obtain ⟨hl, h | ⟨g, cap, cur, rfl, hb, hh, r⟩⟩ := h
  · exact ⟨hl, .inl h⟩
  · exact ⟨hl, .inr ⟨g, cap, cur, rfl, hb, (hg g rfl).trans hh, r⟩⟩
theorem own_base0 {w : World} {base size n : Nat} {e : TypeId} {v : Value} {xs : List Value} (h : w.ownsRow base e size v n xs) : w.ownsRow 0 e size v n xs := by
  obtain ⟨hl, h | ⟨g, cap, cur, rfl, hb, hh, r⟩⟩ := h
  · exact ⟨hl, .inl h⟩
  · exact ⟨hl, .inr ⟨g, cap, cur, rfl, Nat.zero_le _, hh, r⟩⟩
theorem own_low0 {w : World} {base base' size n : Nat} {e : TypeId} {v : Value} {xs : List Value} (h : w.ownsRow base e size v n xs) (hb : base' ≤ base) : w.ownsRow base' e size v n xs := by
  obtain ⟨hl, h | ⟨g, cap, cur, rfl, hg, hh, r⟩⟩ := h
  · exact ⟨hl, .inl h⟩
  · exact ⟨hl, .inr ⟨g, cap, cur, rfl, Nat.le_trans hb hg, hh, r⟩⟩
theorem SOwn.spK2 {W : World} {base n c : Nat} {a : Option Addr} {l : List Sp} (h : SOwn W base (.slice a n c) l) : SpK (fun k => ∃ x, a = some x ∧ x.block = k) W a l := ⟨h.spa, fun _ x hx => ⟨x, hx, rfl⟩⟩
/-- A buffer in memory. -/
structure BuC (w : World) (Bb : Nat) (b : Bf) (hv bv : Value) : Prop where
  blk : w.heap[Bb]? = some (.cells #[hv, bv, .bool b.dr] 86 (0, 0))
  hav : SOwn w 0 hv b.l
  byt : w.ownsRow 0 5 1 bv b.bs.length (b.bs.map (Value.int .u8))
  ok : b.Ok

/-- The boxes of the three parameters, and the buffer's block. -/
structure X4 (w : World) (Bb : Nat) (hv bv : Value) (dr : Bool) (at' : Int) (dv : Value) (V : World) : Prop where
  p3 : V.heap[w.heap.size]? = some (.cells #[.pointer (some ⟨Bb, 0, none⟩)] 25 (0, 0))
  p4 : V.heap[w.heap.size + 1]? = some (.cells #[.int .i64 at'] 3 (0, 0))
  p5 : V.heap[w.heap.size + 1 + 1]? = some (.cells #[dv] 36 (0, 0))
  bb : V.heap[Bb]? = some (.cells #[hv, bv, .bool dr] 86 (0, 0))
  low : Below w.heap.size w V
theorem X4.below {w V V' : World} {Bb : Nat} {hv bv dv : Value} {dr : Bool} {at' : Int} (h : X4 w Bb hv bv dr at' dv V) (hb : Below V.heap.size V V') : X4 w Bb hv bv dr at' dv V' :=
  ⟨(hb.block _ (Array.getElem?_eq_some_iff.1 h.p3).1).trans h.p3, (hb.block _ (Array.getElem?_eq_some_iff.1 h.p4).1).trans h.p4, (hb.block _ (Array.getElem?_eq_some_iff.1 h.p5).1).trans h.p5, (hb.block _ (Array.getElem?_eq_some_iff.1 h.bb).1).trans h.bb, h.low.trans (hb.mono h.low.size)⟩
theorem X4.drew {w V : World} {Bb : Nat} {hv bv dv : Value} {dr : Bool} {at' : Int} (h : X4 w Bb hv bv dr at' dv V) : X4 w Bb hv bv dr at' dv V.drew := h.below ((Below.refl _ _).drew)
theorem X4.alloc {w V : World} {Bb : Nat} {hv bv dv : Value} {dr : Bool} {at' : Int} (h : X4 w Bb hv bv dr at' dv V) (o : Obj) : X4 w Bb hv bv dr at' dv (V.alloc o) := h.below ((Below.refl _ _).alloc (Nat.le_refl _) _)
theorem X4.cells {w V : World} {Bb : Nat} {hv bv dv : Value} {dr : Bool} {at' : Int} (h : X4 w Bb hv bv dr at' dv V) : V.cell? ⟨w.heap.size, 0, none⟩ = some (.pointer (some ⟨Bb, 0, none⟩)) ∧ V.cell? ⟨w.heap.size + 1, 0, none⟩ = some (.int .i64 at') ∧ V.cell? ⟨w.heap.size + 1 + 1, 0, none⟩ = some dv ∧ V.cell? ⟨Bb, 0, none⟩ = some hv :=
  ⟨cell_of_one h.p3, cell_of_one h.p4, cell_of_one h.p5, cell_of_row _ _ 0 _ _ _ h.bb⟩
theorem x4_start {w : World} {Bb : Nat} {hv bv dv : Value} {dr : Bool} (at' : Int) (hB : w.heap[Bb]? = some (.cells #[hv, bv, .bool dr] 86 (0, 0))) : X4 w Bb hv bv dr at' dv (((w.alloc (.cells #[.pointer (some ⟨Bb, 0, none⟩)] 25)).alloc (.cells #[.int .i64 at'] 3)).alloc (.cells #[dv] 36)) := by
  refine ⟨heapB (heapB (heap_alloc_new' _ _) _) _, ?_, ?_, heapB (heapB (heapB hB _) _) _, (((Below.refl _ _).alloc (Nat.le_refl _) _).alloc (by simp) _).alloc (by simp; omega) _⟩
  · have := heap_alloc_new' (w.alloc (.cells #[.pointer (some ⟨Bb, 0, none⟩)] 25)) (.cells #[.int .i64 at'] 3)
    rw [World.size_alloc] at this; exact heapB this _
  · have := heap_alloc_new' ((w.alloc (.cells #[.pointer (some ⟨Bb, 0, none⟩)] 25)).alloc (.cells #[.int .i64 at'] 3)) (.cells #[dv] 36)
    rw [World.size_alloc, World.size_alloc] at this; exact this

/-- What the loop of clash keeps. -/
structure CJ (N0 Nb Bs : Nat) (W0 : World) (p : Int → Bool) (f t : Int) (pre : List Pz) (W : World) : Prop where
  nb : W.heap[Nb]? = some (.cells #[.int .i64 (clp p pre)] 3 (0, 0))
  sb : W.heap[Bs]? = some (.cells #[.int .i64 f, .int .i64 t] 38 (0, 0))
  low : Below N0 W0 W
theorem CJ.own {N0 Nb Bs B : Nat} {W0 : World} {p : Int → Bool} {f t : Int} {L : List Pz} (hB : N0 ≤ B) (hN : N0 ≤ W0.heap.size) : OwnFrom B (fun (pre : List { x : Pz // x ∈ L }) W => CJ N0 Nb Bs W0 p f t (pre.map Subtype.val) W) := fun _ X Y row hs hg hr =>
  ⟨cells_keep hs.nb hg hr, cells_keep hs.sb hg hr, hs.low.grown hg (Nat.le_trans hN hs.low.size) (fun k e => by have := (hr k e).1; omega)⟩
theorem CJ.alloc {N0 Nb Bs : Nat} {W0 : World} {p : Int → Bool} {f t : Int} {pre : List Pz} {W : World} (h : CJ N0 Nb Bs W0 p f t pre W) (hN : N0 ≤ W0.heap.size) (o : Obj) : CJ N0 Nb Bs W0 p f t pre (W.alloc o) :=
  ⟨heapB h.nb o, heapB h.sb o, h.low.alloc (Nat.le_trans hN h.low.size) o⟩
/-- The inner loop: nothing but the count has changed. -/
structure CK (Nb : Nat) (W : World) (c : Int) (wr : World) : Prop where
  gr : W.grownBy wr (some Nb)
  sz : wr.heap.size = W.heap.size
  nb : wr.heap[Nb]? = some (.cells #[.int .i64 c] 3 (0, 0))
theorem CK.drew {Nb : Nat} {W wr : World} {c : Int} (h : CK Nb W c wr) : CK Nb W c wr.drew := ⟨⟨h.gr.os, h.gr.tape, h.gr.output, h.gr.size, h.gr.block⟩, h.sz, h.nb⟩
theorem CK.blk {Nb : Nat} {W wr : World} {c : Int} (h : CK Nb W c wr) {k : Nat} (hk : k ≠ Nb) {o : Obj} (ho : W.heap[k]? = some o) : wr.heap[k]? = some o := (h.gr.block k (Array.getElem?_eq_some_iff.1 ho).1 (fun e => hk (by cases e; rfl))).trans ho
theorem CK.set {Nb : Nat} {W wr : World} {c c' : Int} (h : CK Nb W c wr) : CK Nb W c' (wr.setCell ⟨Nb, 0, none⟩ (.int .i64 c')) := by
  refine ⟨grown_trans h.gr (grown_set _ _ _ _), by simp [World.setCell, h.sz], ?_⟩
  simp [World.setCell, Array.getElem?_modify, h.nb]

end Go.Proofs.YthkphihgdklbbaaDoor.C
