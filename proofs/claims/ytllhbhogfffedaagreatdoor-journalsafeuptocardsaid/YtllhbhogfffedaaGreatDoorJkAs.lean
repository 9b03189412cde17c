import Derived.Test.YtllhbhogfffedaaGreatDoorJnAwk
import Derived.LaidEql
import Derived.Stop.Asserts
import Derived.RowKitTokens
import Derived.Test.YtllhbhogfffedaaGreatDoorRcFme
namespace Go.Proofs.YtllhbhogfffedaaGreatDoor
open Go.RowKit Go.Extern.Stop Go.Stop Go.Extern
set_option linter.unusedVariables false

theorem Tryz.valueOfP (t : Addr) (w : World) : (ReflectliteValue.unpack (.iface 105 (.pointer (some t)))).run Tryz.prog w
    = .ok (.agg #[.pointer (some ⟨5, 105, none⟩), .pointer (some ⟨w.heap.size, 0, none⟩), .int .u64 150]) (w.alloc (.cells #[.pointer (some t)] 105)) := by kernel_rfl
theorem Tryz.typeP (a : Addr) (w : World) : (ReflectliteValue.methodAny (ReflectliteValue.valueError "reflectlite.Value.Type" 0) (fun t _ _ _ => ReflectliteType.toType t) #[.agg #[.pointer (some ⟨5, 105, none⟩), .pointer (some a), .int .u64 150]]).run Tryz.prog w
    = .ok (.iface 172 (.agg #[.pointer (some ⟨5, 105, none⟩)])) w := by kernel_rfl
theorem Tryz.methodKind (h : Value) (w : World) : (Go.method 348 172 (.agg #[h]) "Kind").run Tryz.prog w = .ok (157, h) w := by kernel_rfl
theorem Tryz.kindP (w : World) : ((ReflectliteType.abiMethod fun t => (fun a : Nat => Value.int IntKind.u8 (a : Int)) <$> Rtype.kind t) #[.pointer (some ⟨5, 105, none⟩)]).run Tryz.prog w = .ok (.int .u8 22) w := by kernel_rfl
theorem Tryz.kindE (w : World) : ((ReflectliteType.abiMethod fun t => (fun a : Nat => Value.int IntKind.u8 (a : Int)) <$> Rtype.kind t) #[.pointer (some ⟨5, 55, none⟩)]).run Tryz.prog w = .ok (.int .u8 2) w := by kernel_rfl
theorem rlm7 (z : Sem Value) (f : TypeId → Addr → Nat → Nat → Sem Value) (v : Value) :
    ReflectliteValue.method z f #[v] = (do match ← ReflectliteValue.parts v with | none => z | some (t, a, fl) => f t a fl (fl % 32)) := rfl
theorem Tryz.partsP (a : Addr) (w : World) : (ReflectliteValue.parts (.agg #[.pointer (some ⟨5, 105, none⟩), .pointer (some a), .int .u64 150])).run Tryz.prog w = .ok (some (105, a, 150)) w := by kernel_rfl
theorem Tryz.isNilP (a p : Addr) (W : World) (ha : W.cell? a = some (.pointer (some p))) :
    (ReflectliteValue.method (ReflectliteValue.valueError "reflectlite.Value.IsNil" 0) ReflectliteValue.isNil #[.agg #[.pointer (some ⟨5, 105, none⟩), .pointer (some a), .int .u64 150]]).run Tryz.prog W = .ok (.bool false) W := by
  rw [rlm7]
  simp only [Sem.run_bind, Tryz.partsP, Result.andThen]
  simp [ReflectliteValue.isNil, loadVar, isAgg, underlying, Tryz.underlying105, ha, Result.andThen]
theorem Tryz.methodElem (h : Value) (w : World) : (Go.method 348 172 (.agg #[h]) "Elem").run Tryz.prog w = .ok (168, .agg #[h]) w := by kernel_rfl
theorem Tryz.methodImplements (h : Value) (w : World) : (Go.method 348 172 (.agg #[h]) "Implements").run Tryz.prog w = .ok (169, .agg #[h]) w := by kernel_rfl
theorem Tryz.methodAssignableTo (h : Value) (w : World) : (Go.method 348 172 (.agg #[h]) "AssignableTo").run Tryz.prog w = .ok (166, .agg #[h]) w := by kernel_rfl
theorem Tryz.elemP (w : World) : (ReflectliteType.method ReflectliteType.elem #[.agg #[.pointer (some ⟨5, 105, none⟩)]]).run Tryz.prog w = .ok (.iface 172 (.agg #[.pointer (some ⟨5, 55, none⟩)])) w := by kernel_rfl
theorem Tryz.implementsE (w : World) : (ReflectliteType.relation "Implements" ReflectliteType.implements_ #[.agg #[.pointer (some ⟨5, 55, none⟩)], .iface 172 (.agg #[.pointer (some ⟨5, 43, none⟩)])]).run Tryz.prog w = .ok (.bool true) w := by kernel_rfl
theorem Tryz.typeOfE (v : Value) (w : World) : (ReflectliteType.typeOf #[.iface 55 v]).run Tryz.prog w = .ok (.iface 172 (.agg #[.pointer (some ⟨5, 55, none⟩)])) w := by kernel_rfl
theorem Tryz.assignableE (w : World) : (ReflectliteType.relation "AssignableTo" ReflectliteType.assignableTo #[.agg #[.pointer (some ⟨5, 55, none⟩)], .iface 172 (.agg #[.pointer (some ⟨5, 55, none⟩)])]).run Tryz.prog w = .ok (.bool true) w := by kernel_rfl
theorem Tryz.valueOfE (n : Int) (w : World) : (ReflectliteValue.unpack (.iface 55 (.int .i64 n))).run Tryz.prog w
    = .ok (.agg #[.pointer (some ⟨5, 55, none⟩), .pointer (some ⟨w.heap.size, 0, none⟩), .int .u64 130]) (w.alloc (.cells #[.int .i64 n] 55)) := by kernel_rfl
theorem Tryz.elemOfP (w : World) : (Rtype.elem? 105).run Tryz.prog w = .ok (some 55) w := by kernel_rfl
theorem Tryz.mkE (p : Addr) (w : World) : (ReflectliteValue.mk 55 p ReflectliteValue.flagAddr).run Tryz.prog w = .ok (.agg #[.pointer (some ⟨5, 55, none⟩), .pointer (some p), .int .u64 386]) w := by kernel_rfl
theorem Tryz.elemVP (a p : Addr) (W : World) (ha : W.cell? a = some (.pointer (some p))) :
    (ReflectliteValue.method (ReflectliteValue.valueError "reflectlite.Value.Elem" 0) ReflectliteValue.elem #[.agg #[.pointer (some ⟨5, 105, none⟩), .pointer (some a), .int .u64 150]]).run Tryz.prog W
      = .ok (.agg #[.pointer (some ⟨5, 55, none⟩), .pointer (some p), .int .u64 386]) W := by
  rw [rlm7]
  simp only [Sem.run_bind, Tryz.partsP, Result.andThen]
  simp [ReflectliteValue.elem, loadVar, isAgg, underlying, Tryz.underlying105, ha, Result.andThen, Tryz.elemOfP, Tryz.mkE]
theorem rls7 (v x : Value) : ReflectliteValue.set #[v, x] = (do
    let (some (dst, a, fl), some (src, b, _)) := (← ReflectliteValue.parts v, ← ReflectliteValue.parts x)
      | unsupported (.noEntry "extern/(internal/reflectlite.Value).Set.zeroValue")
    if fl / ReflectliteValue.flagAddr % 2 == 0 then unsupported (.noEntry "extern/(internal/reflectlite.Value).Set.unaddressable")
    let val ← loadVar src b
    if ← Rtype.directlyAssignable dst src then storeVar dst a val
    else if ← Rtype.implements dst src then
      if (← Rtype.kind src) == 20 then
        match val with
        | .nilIface => unsupported (.noEntry "extern/reflectlite: a nil value of one interface type handed on as a value of another")
        | _ => storeVar dst a val
      else storeVar dst a (.iface src val)
    else panicString ("reflectlite.Set: value of type " ++ (← Rtype.spelt src) ++ " is not assignable to type " ++ (← Rtype.spelt dst))
    pure (.tuple #[])) := rfl
theorem Tryz.partsEa (a : Addr) (w : World) : (ReflectliteValue.parts (.agg #[.pointer (some ⟨5, 55, none⟩), .pointer (some a), .int .u64 386])).run Tryz.prog w = .ok (some (55, a, 386)) w := by kernel_rfl
theorem Tryz.partsE (a : Addr) (w : World) : (ReflectliteValue.parts (.agg #[.pointer (some ⟨5, 55, none⟩), .pointer (some a), .int .u64 130])).run Tryz.prog w = .ok (some (55, a, 130)) w := by kernel_rfl
theorem Tryz.directE (w : World) : (Rtype.directlyAssignable 55 55).run Tryz.prog w = .ok true w := by kernel_rfl
theorem Tryz.setE (ta b : Addr) (n : Int) (old : Value) (W : World) (hb : W.cell? b = some (.int .i64 n)) (ht : W.cell? ta = some old) (hf : W.frozen? ta = false) :
    (ReflectliteValue.set #[.agg #[.pointer (some ⟨5, 55, none⟩), .pointer (some ta), .int .u64 386], .agg #[.pointer (some ⟨5, 55, none⟩), .pointer (some b), .int .u64 130]]).run Tryz.prog W
      = .ok (.tuple #[]) (W.setCell ta (.int .i64 n)) := by
  rw [rls7]
  simp only [Sem.run_bind, Tryz.partsEa, Tryz.partsE, Result.andThen]
  simp [ReflectliteValue.flagAddr, loadVar, isAgg, underlying, Tryz.underlying55, hb, Result.andThen, Tryz.directE, storeVar, Value.cells, storeCells, Addr.add]
  rw [run_store Tryz.prog W ta _ _ (by rfl)]
  simp [ht, hf]

set_option maxHeartbeats 4000000 in
set_option maxRecDepth 20000 in
/-- errors.As of an Errno, at a variable of that type: true; the variable has its number. -/
theorem asHit7 (n : Int) (t : Nat) (old : Value) (w : World) (hg : w.cell? ⟨3, 0, none⟩ = some (.iface 172 (.agg #[.pointer (some ⟨5, 43, none⟩)]))) (ht0 : w.cell? ⟨t, 0, none⟩ = some old) (hf0 : w.frozen? ⟨t, 0, none⟩ = false) :
    Calls Tryz.prog 44 #[.iface 55 (.int .i64 n), .iface 105 (.pointer (some ⟨t, 0, none⟩))] w fun ev w' => ev = .returned (.bool true) ∧ w' = ((((w.alloc (.cells #[.pointer (some ⟨t, 0, none⟩)] 105)).alloc (.cells #[.pointer (some ⟨5, 105, none⟩), .pointer (some ⟨w.heap.size, 0, none⟩), .int .u64 150] 147)).alloc (.cells #[.pointer (some ⟨5, 105, none⟩), .pointer (some ⟨w.heap.size, 0, none⟩), .int .u64 150] 147)).alloc (.cells #[.int .i64 n] 55)).setCell ⟨t, 0, none⟩ (.int .i64 n) := by
  have h6 := @run_callFunc_extern Tryz.prog 79 _ (fun args => ReflectliteValue.unpack (args.getD 0 (.tuple #[]))) Tryz.func79 (by kernel_rfl) (by kernel_rfl) (by kernel_rfl) (by kernel_rfl)
  have h7 := @run_callFunc_extern Tryz.prog 80 _ (ReflectliteValue.methodAny (ReflectliteValue.valueError "reflectlite.Value.Type" 0) (fun t _ _ _ => ReflectliteType.toType t)) Tryz.func80 (by kernel_rfl) (by kernel_rfl) (by kernel_rfl) (by kernel_rfl)
  have h8 := @run_callFunc_extern Tryz.prog 81 _ (ReflectliteValue.method (ReflectliteValue.valueError "reflectlite.Value.IsNil" 0) ReflectliteValue.isNil) Tryz.func81 (by kernel_rfl) (by kernel_rfl) (by kernel_rfl) (by kernel_rfl)
  have h27 := @run_callFunc_extern Tryz.prog 157 _ (ReflectliteType.abiMethod fun t => do pure (.int .u8 (← Rtype.kind t))) Tryz.func157 (by kernel_rfl) (by kernel_rfl) (by kernel_rfl) (by kernel_rfl)
  have h37 := @run_callFunc_extern Tryz.prog 168 _ (ReflectliteType.method ReflectliteType.elem) Tryz.func168 (by kernel_rfl) (by kernel_rfl) (by kernel_rfl) (by kernel_rfl)
  have h38 := @run_callFunc_extern Tryz.prog 169 _ (ReflectliteType.relation "Implements" ReflectliteType.implements_) Tryz.func169 (by kernel_rfl) (by kernel_rfl) (by kernel_rfl) (by kernel_rfl)
  have h10 := @run_callFunc_extern Tryz.prog 77 _ ReflectliteType.typeOf Tryz.func77 (by kernel_rfl) (by kernel_rfl) (by kernel_rfl) (by kernel_rfl)
  have h35 := @run_callFunc_extern Tryz.prog 166 _ (ReflectliteType.relation "AssignableTo" ReflectliteType.assignableTo) Tryz.func166 (by kernel_rfl) (by kernel_rfl) (by kernel_rfl) (by kernel_rfl)
  have h11 := @run_callFunc_extern Tryz.prog 105 _ (ReflectliteValue.method (ReflectliteValue.valueError "reflectlite.Value.Elem" 0) ReflectliteValue.elem) Tryz.func105 (by kernel_rfl) (by kernel_rfl) (by kernel_rfl) (by kernel_rfl)
  have h12 := @run_callFunc_extern Tryz.prog 106 _ ReflectliteValue.set Tryz.func106 (by kernel_rfl) (by kernel_rfl) (by kernel_rfl) (by kernel_rfl)
  have tO := Tryz.typeOfE
  have mA := Tryz.methodAssignableTo
  have a25 := Tryz.assignableE
  have v25 := Tryz.valueOfE
  have f6 := Tryz.valueOfP
  have f7 := Tryz.typeP
  have mK := Tryz.methodKind
  have mE := Tryz.methodElem
  have mI := Tryz.methodImplements
  have k27 := Tryz.kindP
  have k25 := Tryz.kindE
  have e27 := Tryz.elemP
  have i25 := Tryz.implementsE
  have n8 := Tryz.isNilP ⟨w.heap.size, 0, none⟩ ⟨t, 0, none⟩ ((w.alloc (.cells #[.pointer (some ⟨t, 0, none⟩)] 105)).alloc (.cells #[.pointer (some ⟨5, 105, none⟩), .pointer (some ⟨w.heap.size, 0, none⟩), .int .u64 150] 147)) (by simp)
  have hlt : 3 < w.heap.size := World.block_lt_of_cell? w ⟨3, 0, none⟩ hg
  have hg2 : ((w.alloc (.cells #[.pointer (some ⟨t, 0, none⟩)] 105)).alloc (.cells #[.pointer (some ⟨5, 105, none⟩), .pointer (some ⟨w.heap.size, 0, none⟩), .int .u64 150] 147)).cell? ⟨3, 0, none⟩ = some (.iface 172 (.agg #[.pointer (some ⟨5, 43, none⟩)])) := by
    rw [World.cell?_alloc_lt _ _ ⟨3, 0, none⟩ (by simp; omega), World.cell?_alloc_lt _ _ ⟨3, 0, none⟩ hlt]; exact hg
  have htl : t < w.heap.size := World.block_lt_of_cell? w ⟨t, 0, none⟩ ht0
  have el := Tryz.elemVP ⟨w.heap.size, 0, none⟩ ⟨t, 0, none⟩ (((w.alloc (.cells #[.pointer (some ⟨t, 0, none⟩)] 105)).alloc (.cells #[.pointer (some ⟨5, 105, none⟩), .pointer (some ⟨w.heap.size, 0, none⟩), .int .u64 150] 147)).alloc (.cells #[.pointer (some ⟨5, 105, none⟩), .pointer (some ⟨w.heap.size, 0, none⟩), .int .u64 150] 147)) (by rw [World.cell?_alloc_lt _ _ ⟨w.heap.size, 0, none⟩ (by simp; omega)]; simp)
  have st := Tryz.setE ⟨t, 0, none⟩ ⟨w.heap.size + 1 + 1 + 1, 0, none⟩ n old ((((w.alloc (.cells #[.pointer (some ⟨t, 0, none⟩)] 105)).alloc (.cells #[.pointer (some ⟨5, 105, none⟩), .pointer (some ⟨w.heap.size, 0, none⟩), .int .u64 150] 147)).alloc (.cells #[.pointer (some ⟨5, 105, none⟩), .pointer (some ⟨w.heap.size, 0, none⟩), .int .u64 150] 147)).alloc (.cells #[.int .i64 n] 55))
    (by rw [World.cell?_alloc_at _ _ _ _ (by simp)]; rfl)
    (by rw [World.cell?_alloc_lt _ _ ⟨t, 0, none⟩ (by simp; omega), World.cell?_alloc_lt _ _ ⟨t, 0, none⟩ (by simp; omega), World.cell?_alloc_lt _ _ ⟨t, 0, none⟩ (by simp; omega), World.cell?_alloc_lt _ _ ⟨t, 0, none⟩ htl]; exact ht0)
    (by rw [World.frozen?_alloc_old _ _ ⟨t, 0, none⟩ (by simp; omega), World.frozen?_alloc_old _ _ ⟨t, 0, none⟩ (by simp; omega), World.frozen?_alloc_old _ _ ⟨t, 0, none⟩ (by simp; omega), World.frozen?_alloc_old _ _ ⟨t, 0, none⟩ (Nat.ne_of_lt htl)]; exact hf0)
  go_enter Tryz.func44, Tryz.ntmps44
  go_wp2
  refine wp_loop_rounds 1 ?_
  rw [rounds_succ]
  go_wp2
  go_ret
  exact ⟨rfl, rfl⟩

set_option maxRecDepth 20000 in
/-- errors.Is of an Errno and a sentinel: false; nothing changes. -/
theorem isErrno7 (n : Int) (b : Addr) (w : World) :
    Calls Tryz.prog 43 #[.iface 55 (.int .i64 n), .iface 218 (.pointer (some b))] w fun e w' => e = .returned (.bool false) ∧ w' = w := by
  have k1 := @run_callFunc_extern Tryz.prog 77 _ Extern.ReflectliteType.typeOf Tryz.func77 (by kernel_rfl) (by kernel_rfl) (by kernel_rfl) (by kernel_rfl)
  have k2 : ∀ (w : World), (callFunc 167 #[.agg #[.pointer (some ⟨5, 218, none⟩)]]).run Tryz.prog w = .ok (.value (.bool true)) w := by
    intro w
    have q := @run_callFunc_extern Tryz.prog 167 _ (Extern.ReflectliteType.method fun t => do Extern.Rtype.noPackHeld "Comparable" t; pure (.bool (← typeInfo t).comparable)) Tryz.func167 (by kernel_rfl) (by kernel_rfl) (by kernel_rfl) (by kernel_rfl)
    rw [q]
    have q' : ((Extern.ReflectliteType.method fun t => do Extern.Rtype.noPackHeld "Comparable" t; pure (.bool (← typeInfo t).comparable)) #[.agg #[.pointer (some ⟨5, 218, none⟩)]]).run Tryz.prog w = .ok (.bool true) w := by kernel_rfl
    rw [q']
    rfl
  have k3 : ∀ (v : Value) (w : World), (Extern.ReflectliteType.typeOf #[.iface 218 v]).run Tryz.prog w = .ok (.iface 172 (.agg #[.pointer (some ⟨5, 218, none⟩)])) w := by intro v w; kernel_rfl
  have k5 : ∀ (v : Value) (w : World), (Go.method 348 172 v "Comparable").run Tryz.prog w = .ok (167, v) w := by intro v w; kernel_rfl
  have k6 := run_eql_iface_types (P := Tryz.prog) 55 218 (.int .i64 n) (.pointer (some b)) Tryz.underlying43 (by decide) w
  have n1 : ∀ (v : Value) (xT : TypeId) (w : World), (Instr.typeAssert (.iface 55 v) xT 174 true).run Tryz.prog w = .ok (.tuple #[.nilIface, .bool false]) w := fun v xT w => run_typeAssert_lacksB Tryz.underlying174 (by kernel_rfl) (by kernel_rfl) v xT w
  have n2 : ∀ (v : Value) (xT : TypeId) (w : World), (Instr.typeAssert (.iface 55 v) xT 177 true).run Tryz.prog w = .ok (.tuple #[.nilIface, .bool false]) w := fun v xT w => run_typeAssert_lacksB Tryz.underlying177 (by kernel_rfl) (by kernel_rfl) v xT w
  have n3 : ∀ (v : Value) (xT : TypeId) (w : World), (Instr.typeAssert (.iface 55 v) xT 178 true).run Tryz.prog w = .ok (.tuple #[.nilIface, .bool false]) w := fun v xT w => run_typeAssert_lacksB Tryz.underlying178 (by kernel_rfl) (by kernel_rfl) v xT w
  go_enter Tryz.func43, Tryz.ntmps43
  go_wp2
  refine wp_loop_rounds 1 ?_
  rw [rounds_succ]
  go_wp2
  go_ret
  exact ⟨rfl, rfl⟩
end Go.Proofs.YtllhbhogfffedaaGreatDoor

namespace Go.Proofs.YtllhbhogfffedaaGreatDoor.K
open Go.RowKit
set_option linter.unusedVariables false
set_option linter.unusedSimpArgs false

/-- A journal: how many bytes, how many of them loose, whether it is dead. -/
structure Jl where
  n : Nat
  k : Nat
  dead : Bool
abbrev jbO (d : Nat) (J : Jl) : Array Value := #[.pointer (some ⟨d, 0, none⟩), .int .i64 J.n, .int .i64 J.k, .bool J.dead]
def Jb (w : World) (j d : Nat) (J : Jl) : Prop := w.heap[j]? = some (.cells (jbO d J) 100 (0, 0))
theorem Jb.c {w : World} {j d : Nat} {J : Jl} (h : Jb w j d J) (i : Nat) : w.cell? ⟨j, i, none⟩ = (jbO d J)[i]? := cell_of_row _ _ i _ _ _ h
theorem Jb.z {w : World} {j d : Nat} {J : Jl} (h : Jb w j d J) (i : Nat) : w.frozen? ⟨j, i, none⟩ = false := frozen_of_row _ _ i _ _ h
theorem Jb.lt {w : World} {j d : Nat} {J : Jl} (h : Jb w j d J) : j < w.heap.size := (Array.getElem?_eq_some_iff.1 h).1
/-- What an error is: nil, the disk's three, or an Errno. -/
def evJ (aD aF aN : Addr) (c : Nat) : Value := if c ≤ 3 then evD aD aF aN c else .iface 55 (.int .i64 c)
theorem evJ_nil {aD aF aN : Addr} : evJ aD aF aN 0 = .nilIface := rfl
theorem evJ_d {aD aF aN : Addr} {r : Nat} (h : r ≤ 3) : evJ aD aF aN r = evD aD aF aN r := if_pos h
theorem evJ_e {aD aF aN : Addr} {r : Nat} (h : 3 < r) : evJ aD aF aN r = .iface 55 (.int .i64 r) := if_neg (by omega)
/-- What frames answers. -/
def frE (J : Jl) (l : List Rc) : Nat := if J.dead = true then 70 else if l.all mayB6 = true then 0 else 60
theorem frE_live {J : Jl} {l : List Rc} (h : frE J l = 0) : J.dead = false ∧ fmR l = (l.flatMap frB, 0) := by
  unfold frE at h
  by_cases h1 : J.dead = true
  · rw [if_pos h1] at h; cases h
  · rw [if_neg h1] at h
    by_cases h2 : l.all mayB6 = true
    · exact ⟨by simpa using h1, by unfold fmR; rw [if_pos h2]⟩
    · rw [if_neg h2] at h; cases h
def FrP (J : Jl) (l : List Rc) (aD aF aN : Addr) (w : World) (e : Ending) (w' : World) : Prop :=
  ∃ v, e = .returned (.tuple #[v, evJ aD aF aN (frE J l)]) ∧ (frE J l = 0 → w'.ownsRow w.heap.size 5 1 v (l.flatMap frB).length ((l.flatMap frB).map (Value.int .u8))) ∧ (frE J l ≠ 0 → v = .slice none 0 0) ∧ Below w.heap.size w w'

set_option maxHeartbeats 4000000 in
set_option maxRecDepth 20000 in
theorem jframes_any (w : World) (j d : Nat) (J : Jl) (l : List Rc) (a : Option Addr) (n c : Nat) (aD aF aN : Addr) (hT : Tab6 w) (hl : l.length = n) (hn : n ≤ 1048576) (ha : RLin w a l) (hd : ∀ r ∈ l, Bytey r.data) (h : Jb w j d J) :
    Calls Tryz.prog 45 #[.pointer (some ⟨j, 0, none⟩), .slice a n c] w fun e w' => FrP J l aD aF aN w e w' := by
  have HF := frame_any l a n c w hT hl hn ha hd
  have c3 : w.cell? ⟨j, 3, none⟩ = some (.bool J.dead) := h.c 3
  clear hT hl ha hd h
  cases hdd : J.dead with
  | true =>
    have HE : Hid (frE J l = 70) := by show _ = _; unfold frE; rw [if_pos hdd]
    rw [hdd] at c3
    clear HF hdd
    go_enter Tryz.func45, Tryz.ntmps45
    go_wp2
    refine bodyPost_ret (v := .tuple #[.slice none 0 0, .iface 55 (.int .i64 70)]) (by simp [results, Tryz.results45, go_sem]) rfl ?_
    exact ⟨_, by rw [HE.out]; rfl, fun h => (by rw [HE.out] at h; cases h), fun _ => rfl, Below.refl _ _⟩
  | false =>
    rw [hdd] at c3
    by_cases hm : l.all mayB6 = true
    · have HE : Hid (frE J l = 0) := by show _ = _; unfold frE; rw [if_neg (by simp [hdd]), if_pos hm]
      have hfm : fmR l = (l.flatMap frB, 0) := by unfold fmR; rw [if_pos hm]
      rw [hfm] at HF
      unfold PrPost at HF
      clear hfm hm hdd
      go_enter Tryz.func45, Tryz.ntmps45
      go_wp2_with (go_at_call 83; refine HF.mono ?_; rintro e w2 ⟨v2, rfl, ho2, hb2⟩)
      refine bodyPost_ret (v := .tuple #[v2, .nilIface]) (by simp [results, Tryz.results45, go_sem]) rfl ?_
      exact ⟨_, by rw [HE.out]; rfl, fun _ => ho2, fun h => absurd HE.out h, hb2⟩
    · have HE : Hid (frE J l = 60) := by show _ = _; unfold frE; rw [if_neg (by simp [hdd]), if_neg hm]
      have hfm : fmR l = ([], 60) := by unfold fmR; rw [if_neg hm]
      rw [hfm] at HF
      unfold PrPost at HF
      clear hfm hm hdd
      go_enter Tryz.func45, Tryz.ntmps45
      go_wp2_with (go_at_call 83; refine HF.mono ?_; rintro e w2 ⟨v2, rfl, ho2, hb2⟩)
      refine bodyPost_ret (v := .tuple #[.slice none 0 0, .iface 55 (.int .i64 60)]) (by simp [results, Tryz.results45, go_sem]) rfl ?_
      exact ⟨_, by rw [HE.out]; rfl, fun h => (by rw [HE.out] at h; cases h), fun _ => rfl, hb2⟩

/-- What heard makes of a journal. -/
def hdJ (J : Jl) (r : Nat) : Jl := if r = 2 then ⟨0, 0, true⟩ else J

set_option maxHeartbeats 4000000 in
set_option maxRecDepth 20000 in
theorem heard_any (w : World) (j d : Nat) (J : Jl) (r : Nat) (F : Nat → Prop) (aD aF aN : Addr) (hr : r ≤ 3) (hS : Snt w F aD aF aN) (h : Jb w j d J) :
    Calls Tryz.prog 46 #[.pointer (some ⟨j, 0, none⟩), evD aD aF aN r] w fun e w' => e = .returned (evD aD aF aN r) ∧ Jb w' j d (hdJ J r) ∧ Kd (fun k => k = j) w w' := by
  have HI := isDown_any w F aD aF aN r hr hS
  have c1 : w.cell? ⟨j, 1, none⟩ = some (.int .i64 J.n) := h.c 1
  have c2 : w.cell? ⟨j, 2, none⟩ = some (.int .i64 J.k) := h.c 2
  have c3 : w.cell? ⟨j, 3, none⟩ = some (.bool J.dead) := h.c 3
  have z1 := h.z 1
  have z2 := h.z 2
  have z3 := h.z 3
  have e0 : w.cell? ⟨0, 0, none⟩ = some (.iface 218 (.pointer (some aD))) := hS.er.d
  have HB : Hid (Jb w j d J) := h
  unfold errV at HI
  obtain ⟨ev, hev⟩ : ∃ ev, evD aD aF aN r = ev := ⟨_, rfl⟩
  rw [hev] at HI ⊢
  clear hev hS h
  by_cases h2 : r = 2
  · have hb : decide (r = 2) = true := by simp [h2]
    have HE : Hid (hdJ J r = ⟨0, 0, true⟩) := by show _ = _; unfold hdJ; rw [if_pos h2]
    rw [hb] at HI
    clear hb h2
    have HW : Hid (Jb (((w.setCell ⟨j, 3, none⟩ (.bool true)).setCell ⟨j, 1, none⟩ (.int .i64 0)).setCell ⟨j, 2, none⟩ (.int .i64 0)) j d ⟨0, 0, true⟩ ∧ Kd (fun k => k = j) w (((w.setCell ⟨j, 3, none⟩ (.bool true)).setCell ⟨j, 1, none⟩ (.int .i64 0)).setCell ⟨j, 2, none⟩ (.int .i64 0))) := by
      refine ⟨?_, ?_⟩
      · have e1 : (w.setCell ⟨j, 3, none⟩ (.bool true)).heap[j]? = _ := heap_setCell_same w j 3 _ _ _ HB.out
        have e2 : ((w.setCell ⟨j, 3, none⟩ (.bool true)).setCell ⟨j, 1, none⟩ (.int .i64 0)).heap[j]? = _ := heap_setCell_same _ j 1 _ _ _ e1
        exact heap_setCell_same _ j 2 _ _ _ e2
      · exact ((Kd.set (F := fun k => k = j) (a := w) (i := 3) (v := .bool true) rfl).trans (Kd.set rfl)).trans (Kd.set rfl)
    go_enter Tryz.func46, Tryz.ntmps46
    go_wp2_with (go_at_call 43; refine HI.mono ?_; rintro e w9 ⟨rfl, hw9⟩; rw [hw9]; clear hw9)
    go_ret
    exact ⟨rfl, by rw [HE.out]; exact HW.out.1, HW.out.2⟩
  · have hb : decide (r = 2) = false := by simp [h2]
    have HE : Hid (hdJ J r = J) := by show _ = _; unfold hdJ; rw [if_neg h2]
    rw [hb] at HI
    clear hb h2
    go_enter Tryz.func46, Tryz.ntmps46
    go_wp2_with (go_at_call 43; refine HI.mono ?_; rintro e w9 ⟨rfl, hw9⟩; rw [hw9]; clear hw9)
    go_ret
    exact ⟨rfl, by rw [HE.out]; exact HB.out, Kd.refl _ _⟩
end Go.Proofs.YtllhbhogfffedaaGreatDoor.K
