import Derived.Test.YtlagadpfnkidjacDec
namespace Go.Proofs.Ytlagadpfnkidjac
open Go.RowKit

theorem set_last {α : Type} (A : List α) (x y : α) : (A ++ [x]).set A.length y = A ++ [y] := by
  rw [List.set_append_right (h := Nat.le_refl _)]; simp
theorem Dl.tail {W w5 : World} {base L cap : Nat} {cs0 : List Rw} {ov v' : Value} {x y : List Sp} (h : Dl W base (.slice (some ⟨L, 0, none⟩) (cs0.length + 1) cap) (cs0 ++ [(ov, x)])) (hs : SOwn w5 base v' y) (hg : W.grownBy w5 ov.ownBlock) (hb : v'.ownBlock = ov.ownBlock ∨ ∃ g, v'.ownBlock = some g ∧ W.heap.size ≤ g) :
    Dl (w5.setCell ⟨L, cs0.length, none⟩ v') base (.slice (some ⟨L, 0, none⟩) (cs0.length + 1) cap) (cs0 ++ [(v', y)]) := by
  have hx : (cs0 ++ [(ov, x)])[cs0.length]? = some (ov, x) := by simp
  have hlt : L < W.heap.size := (h.row.lt L rfl).2
  have hlv : ∀ g, ov.ownBlock = some g → L ≠ g := fun g hg e => h.cl.off _ _ hx g hg (by rw [← e]; rfl)
  have hrow := h.row
  rw [List.length_append, List.map_append] at hrow
  have hr5 := hrow.kept hg (.inr (fun e => by
    have e' : some L = ov.ownBlock := e
    exact hlv L e'.symm rfl))
  have hr6 := (World.ownsRow.stored hr5 cs0.length v').1
  have hc5 := h.cl.set hx hg (x' := (v', y)) hs (by
    rcases hb with e | ⟨g, e, hle⟩
    · exact .inl e
    · refine .inr (fun k hk => ?_)
      have hk' : v'.ownBlock = some k := hk
      rw [e] at hk'
      simp only [Option.some.injEq] at hk'
      subst hk'
      exact ⟨hle, fun q => by simp only [Value.ownBlock, Option.some.injEq] at q; omega⟩)
  rw [set_last] at hc5
  refine ⟨?_, hc5.other (grown_set w5 L cs0.length v') (fun g e => .inl (by simpa [Value.ownBlock] using e))⟩
  rw [List.length_append, List.map_append]
  have e2 : (List.map (fun z : Rw => z.1) cs0 ++ [ov]).set cs0.length v' = List.map (fun z : Rw => z.1) cs0 ++ [v'] := by
    have := set_last (List.map (fun z : Rw => z.1) cs0) ov v'
    rwa [List.length_map] at this
  have hr7 : (w5.setCell ⟨L, cs0.length, none⟩ v').ownsRow base 22 1 (.slice (some ⟨L, 0, none⟩) (cs0.length + 1) cap) (cs0.length + 1) ((List.map (fun z : Rw => z.1) cs0 ++ [ov]).set cs0.length v') := hr6
  rw [e2] at hr7
  exact hr7
theorem Dl.lastAt {W : World} {base L cap : Nat} {cs0 : List Rw} {ov : Value} {x : List Sp} (h : Dl W base (.slice (some ⟨L, 0, none⟩) (cs0.length + 1) cap) (cs0 ++ [(ov, x)])) : W.cell? ⟨L, cs0.length, none⟩ = some ov := by
  have hrow := h.row
  rw [List.length_append, List.map_append] at hrow
  have := hrow.cellAt cs0.length (by simp)
  rw [this]
  simp

/-- The reference's lists so far. -/
structure Rg (W : World) (base m i : Nat) (l : List Sp) (v : Value) (cs : List Rw) : Prop where
  row : Dl W base v cs
  all : (cs.map (·.2)).flatten = l.take i
  dr : DR m (cs.map (·.2))

end Go.Proofs.Ytlagadpfnkidjac
