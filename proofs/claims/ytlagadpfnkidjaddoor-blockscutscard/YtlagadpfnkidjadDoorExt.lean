import Derived.Test.YtlagadpfnkidjadDoorPut
namespace Go.Proofs.YtlagadpfnkidjadDoor
open Go.RowKit

/-- A world with new blocks behind it. -/
def allocs (w : World) (os : List Obj) : World := os.foldl World.alloc w
theorem allocs_snoc (w : World) (os : List Obj) (o : Obj) : allocs w (os ++ [o]) = (allocs w os).alloc o := by simp [allocs]
theorem allocs_below (w : World) (os : List Obj) : Below w.heap.size w (allocs w os) := by
  induction os generalizing w with
  | nil => exact Below.refl _ _
  | cons o os ih =>
    have h := ih (w.alloc o)
    exact ((Below.refl _ w).alloc (Nat.le_refl _) o).trans (h.mono (by simp))
theorem allocs_append (w : World) (os os' : List Obj) : allocs (allocs w os) os' = allocs w (os ++ os') := by simp [allocs, List.foldl_append]
theorem allocs_drewN (w : World) (os : List Obj) (n : Nat) : allocs (w.drewN n) os = (allocs w os).drewN n := by
  induction os generalizing w with
  | nil => rfl
  | cons o os ih => exact ih (w.alloc o)
structure Xt where
  os : List Obj
  n : Nat
  deriving Inhabited
/-- A world with new blocks behind it, and after some draws: the class of worlds of a region that only reads, draws and makes new blocks. -/
def ext (w : World) (x : Xt) : World := (allocs w x.os).drewN x.n
theorem ext_ext (w : World) (x y : Xt) : ext (ext w x) y = ext w ⟨x.os ++ y.os, x.n + y.n⟩ := by
  simp only [ext]; rw [allocs_drewN, allocs_append, World.drewN_drewN]
theorem ext_below (w : World) (x : Xt) : Below w.heap.size w (ext w x) := ⟨(allocs_below w x.os).os, (allocs_below w x.os).tape, (allocs_below w x.os).output, (allocs_below w x.os).size, (allocs_below w x.os).block⟩
theorem ext_cell (w : World) (x : Xt) (a : Addr) (h : a.block < w.heap.size) : (ext w x).cell? a = w.cell? a := (ext_below w x).cell h

theorem wp_region_ext {P : Program} {id : Nat} {Q : Exit → Act → World → Prop} {a : Act} {w : World} {l : List Oper} (hm : P.follows .mixedOrders = true) (hB : Region.lexB .any l.toArray = true)
    (h : wpQuiet P l.toArray (fun w' => ∃ x, w' = ext w x) (fun a' => ∀ w', (∃ x, w' = ext w x) → Q .normal a' w') l a) : (Code.region id l.toArray true).wp P Q a w :=
  wp_region_quiet (C := fun w' => ∃ x, w' = ext w x) hm hB ⟨⟨[], 1⟩, rfl⟩ (by simpa using h)

/-- A callee's contract in such a region: it leaves the world alone. -/
theorem ext_same {P : Program} {f : FuncId} {args : Array Value} {w : World} {x : Xt} {v : Value}
    (h : Calls P f args (ext w x) fun e w' => e = .returned v ∧ ext w x = w') : Calls P f args (ext w x) fun e w'' => e = .returned v ∧ ∃ y, w'' = ext w y :=
  h.mono fun _ _ ⟨he, hm⟩ => ⟨he, x, hm.symm⟩
/-- .. it makes new blocks. -/
theorem ext_more {P : Program} {f : FuncId} {args : Array Value} {w : World} {x : Xt} {v : Value}
    (h : Calls P f args (ext w x) fun e w' => e = .returned v ∧ ∃ y, w' = ext (ext w x) y) : Calls P f args (ext w x) fun e w'' => e = .returned v ∧ ∃ y, w'' = ext w y :=
  h.mono fun _ _ ⟨he, y, hm⟩ => ⟨he, _, hm.trans (ext_ext w x y)⟩

end Go.Proofs.YtlagadpfnkidjadDoor
