import Derived.Test.YtllhbhogfffedaaGreatDoorJnIs
namespace Go.Proofs.YtllhbhogfffedaaGreatDoor
open Go.RowKit Go.Extern.Stop Go.Stop Go.Extern
set_option linter.unusedVariables false

set_option maxRecDepth 20000 in
/-- errors.Is of a sentinel and another one: false; nothing changes. -/
theorem isOther7 (a b : Addr) (ca cb : Array Value) (ta tb : TypeId) (w : World) (hne : a ≠ b) (ha : w.heap[a.block]? = some (.cells ca ta (0, 0))) (hb : w.heap[b.block]? = some (.cells cb tb (0, 0))) :
    Calls Tryz.prog 43 #[.iface 218 (.pointer (some a)), .iface 218 (.pointer (some b))] w fun e w' => e = .returned (.bool false) ∧ w' = w := by
  have q1 : (Tryz.prog.info? 218).map (·.comparable) = some true := by kernel_rfl
  have q2 : (Tryz.prog.info? 238).map (·.size) = some 1 := by kernel_rfl
  obtain ⟨i, hi, hc⟩ := Option.map_eq_some_iff.1 q1
  obtain ⟨j, hj, hs⟩ := Option.map_eq_some_iff.1 q2
  have k1 := @run_callFunc_extern Tryz.prog 77 _ Extern.ReflectliteType.typeOf Tryz.func77 (by kernel_rfl) (by kernel_rfl) (by kernel_rfl) (by kernel_rfl)
  have k2 : ∀ (w : World), (callFunc 167 #[.agg #[.pointer (some ⟨5, 218, none⟩)]]).run Tryz.prog w = .ok (.value (.bool true)) w := by
    intro w
    have q := @run_callFunc_extern Tryz.prog 167 _ (Extern.ReflectliteType.method fun t => do Extern.Rtype.noPackHeld "Comparable" t; pure (.bool (← typeInfo t).comparable)) Tryz.func167 (by kernel_rfl) (by kernel_rfl) (by kernel_rfl) (by kernel_rfl)
    rw [q]
    have q' : ((Extern.ReflectliteType.method fun t => do Extern.Rtype.noPackHeld "Comparable" t; pure (.bool (← typeInfo t).comparable)) #[.agg #[.pointer (some ⟨5, 218, none⟩)]]).run Tryz.prog w = .ok (.bool true) w := by kernel_rfl
    rw [q']
    rfl
  have k3 : ∀ (v : Value) (w : World), (Extern.ReflectliteType.typeOf #[.iface 218 v]).run Tryz.prog w = .ok (.iface 172 (.agg #[.pointer (some ⟨5, 218, none⟩)])) w := by intro v w; kernel_rfl
  have k5 : ∀ (v : Value) (w : World), (Go.method 348 172 v "Comparable").run Tryz.prog w = .ok (167, v) w := by intro v w; kernel_rfl
  have k6 := run_eql_iface_ptr_other (P := Tryz.prog) w Tryz.underlying43 Tryz.underlying218 hi hc hj (by omega) hne ha hb
  have n1 : ∀ (v : Value) (xT : TypeId) (w : World), (Instr.typeAssert (.iface 218 v) xT 174 true).run Tryz.prog w = .ok (.tuple #[.nilIface, .bool false]) w := fun v xT w => run_typeAssert_lacksB Tryz.underlying174 (by kernel_rfl) (by kernel_rfl) v xT w
  have n2 : ∀ (v : Value) (xT : TypeId) (w : World), (Instr.typeAssert (.iface 218 v) xT 177 true).run Tryz.prog w = .ok (.tuple #[.nilIface, .bool false]) w := fun v xT w => run_typeAssert_lacksB Tryz.underlying177 (by kernel_rfl) (by kernel_rfl) v xT w
  have n3 : ∀ (v : Value) (xT : TypeId) (w : World), (Instr.typeAssert (.iface 218 v) xT 178 true).run Tryz.prog w = .ok (.tuple #[.nilIface, .bool false]) w := fun v xT w => run_typeAssert_lacksB Tryz.underlying178 (by kernel_rfl) (by kernel_rfl) v xT w
  go_enter Tryz.func43, Tryz.ntmps43
  go_wp2
  refine wp_loop_rounds 1 ?_
  rw [rounds_succ]
  go_wp2
  go_ret
  exact ⟨rfl, rfl⟩
end Go.Proofs.YtllhbhogfffedaaGreatDoor
