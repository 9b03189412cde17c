import Derived.Test.YtdfdaambfihjaaaDoorLnCo
namespace Go.Proofs.YtdfdaambfihjaaaDoor.L
open Go.RowKit
set_option linter.unusedVariables false
set_option linter.unusedSimpArgs false

/-! ## The map of lines, of one peer at most -/
theorem ckey (w : World) (k : Int) (e : Bool) : (Instr.checkKey e 10000 3 (.int .i64 k)).run Tryd.prog w = .ok () w := MapKept.run_checkKey Tryd.underlying3 (by simp [MapKept.IsKey]) e 9999
theorem fnd0 (w : World) (k : Int) : (Instr.findKey 3 (.int .i64 k) []).run Tryd.prog w = .ok none w := by
  simp [Instr.findKey, run_underlying Tryd.underlying3, Instr.findNow]
theorem fnd1 (w : World) (k : Int) (v : Value) (b : Nat) : (Instr.findKey 3 (.int .i64 k) [⟨.int .i64 k, v, b⟩]).run Tryd.prog w = .ok (some (0, v)) w := by
  simp [Instr.findKey, run_underlying Tryd.underlying3, Instr.findNow, Instr.sameNow]
theorem look0 (w : World) (m clock : Nat) (k : Int) (hb : w.heap[m]? = some (.map #[] clock)) : (Instr.lookup 61 (.map (some m)) (.int .i64 k) true).run Tryd.prog w = .ok (.tuple #[.pointer none, .bool false]) w := by
  have hz : (zeroValue 67).run Tryd.prog w = .ok (.pointer none) w := by first | exact Tryd.zeroValue67 w | exact Tryd.zeroValue67 | simp [zeroValue, typeInfo]
  simp [Instr.lookup, run_underlying Tryd.underlying61, MapKept.run_getObj_map hb, ckey, fnd0, hz, Result.andThen]
theorem look1 (w : World) (m clock x born : Nat) (k : Int) (hb : w.heap[m]? = some (.map #[⟨.int .i64 k, .pointer (some ⟨x, 0, none⟩), born⟩] clock)) : (Instr.lookup 61 (.map (some m)) (.int .i64 k) true).run Tryd.prog w = .ok (.tuple #[.pointer (some ⟨x, 0, none⟩), .bool true]) w := by
  simp [Instr.lookup, run_underlying Tryd.underlying61, MapKept.run_getObj_map hb, ckey, fnd1, Result.andThen]
/-- An object laid in a block. -/
def setO (w : World) (m : Nat) (o : Obj) : World := { w with heap := w.heap.setIfInBounds m o }
theorem setO_same {w : World} {m : Nat} {o : Obj} (h : m < w.heap.size) : (setO w m o).heap[m]? = some o := by simp [setO, h]
theorem setO_other {w : World} {m k : Nat} {o : Obj} (h : k ≠ m) : (setO w m o).heap[k]? = w.heap[k]? := by unfold setO; simp only; rw [Array.getElem?_setIfInBounds_ne (Ne.symm h)]
theorem setO_grown (w : World) (m : Nat) (o : Obj) : w.grownBy (setO w m o) (some m) := ⟨rfl, rfl, rfl, by simp [setO], fun k _ hk => setO_other (fun e => hk (by rw [e]))⟩
theorem upd0 (w : World) (m clock : Nat) (k : Int) (v : Value) (hb : w.heap[m]? = some (.map #[] clock)) : (Instr.mapUpdate 61 (.map (some m)) (.int .i64 k) v).run Tryd.prog w = .ok () (setO w m (.map #[⟨.int .i64 k, v, clock⟩] (clock + 1))) := by
  simp [Instr.mapUpdate, run_underlying Tryd.underlying61, MapKept.run_getObj_map hb, MapKept.run_setObj_map _ hb, ckey, fnd0, Result.andThen, setO]
theorem del1 (w : World) (m clock x born : Nat) (k : Int) (ty : TypeId) (hb : w.heap[m]? = some (.map #[⟨.int .i64 k, .pointer (some ⟨x, 0, none⟩), born⟩] clock)) : (Builtin.delete_ #[61, 3] ty #[.map (some m), .int .i64 k]).run Tryd.prog w = .ok (.tuple #[]) (setO w m (.map #[] clock)) := by
  simp [Builtin.delete_, run_underlying Tryd.underlying61, MapKept.run_getObj_map hb, MapKept.run_setObj_map _ hb, ckey, fnd1, Result.andThen, setO]
theorem del0 (w : World) (m clock : Nat) (k : Int) (ty : TypeId) (hb : w.heap[m]? = some (.map #[] clock)) : (Builtin.delete_ #[61, 3] ty #[.map (some m), .int .i64 k]).run Tryd.prog w = .ok (.tuple #[]) (setO w m (.map #[] clock)) := by
  simp [Builtin.delete_, run_underlying Tryd.underlying61, MapKept.run_getObj_map hb, MapKept.run_setObj_map _ hb, ckey, fnd0, Result.andThen, setO]

end Go.Proofs.YtdfdaambfihjaaaDoor.L
