import Derived.Test.YtdfdaambfihjaaaDoorSeg
import Derived.Deep.MidRow
import Derived.Laws.Tables
import Derived.BigRegion
namespace Go.Proofs.YtdfdaambfihjaaaDoor
open Go.RowKit

/-- A segment as a value. -/
def sv (s : Sg) (hv tv dv cv : Value) : Value := .agg #[.int .i64 s.typ, .int .i64 s.org, .int .i64 s.num, hv, tv, .int .i64 s.srv, .int .i64 s.off, dv, .int .i64 s.chk, .int .i64 s.rep, .int .i64 s.upp, .int .i64 s.low, cv, .int .i64 s.rsn]

def ParsePost (zs : List Int) (w : World) (e : Ending) (w' : World) : Prop :=
  ∃ (hv tv dv cv : Value) (hx tx : List Xr) (B1 B2 : Nat), e = .returned (.tuple #[sv (prs zs).2 hv tv dv cv, .int .i64 (prs zs).1]) ∧ SOwn w' w.heap.size (prs zs).2 hv tv dv cv hx tx B1 B2 ∧ Below w.heap.size w w'

theorem sown_zero (w : World) (base : Nat) : SOwn w base sg0 (.slice none 0 0) (.slice none 0 0) (.slice none 0 0) (.slice none 0 0) [] [] base base :=
  ⟨Nat.le_refl _, Nat.le_refl _, XOwn.nil _ _, (by rintro k (h | ⟨x, hx, _⟩); cases h; cases hx), rfl, World.ownsRow_nil _ _ _ _, (fun _ h => by cases h), (fun _ h => by cases h), by simp [sg0], World.ownsRow_nil _ _ _ _, (fun _ h => by cases h), by simp [sg0], .inl rfl, XOwn.nil _ _, rfl, by simp⟩

/-- The answer's variable, and the reader, as they begin. -/
abbrev zO : Obj := .cells #[.int .i64 0, .int .i64 0, .int .i64 0, .slice none 0 0, .slice none 0 0, .int .i64 0, .int .i64 0, .slice none 0 0, .int .i64 0, .int .i64 0, .int .i64 0, .int .i64 0, .slice none 0 0, .int .i64 0] 37
theorem Tryd.size_seg : (Tryd.prog.info? 37).map (·.size) = some 14 := by kernel_rfl

theorem grown_setRow (w : World) (g : Nat) (cs : Array Value) : w.grownBy (w.setRow g cs) (some g) :=
  ⟨rfl, rfl, rfl, by simp, fun k _ hne => by
    unfold World.setRow
    simp only [Array.getElem?_modify]
    rw [if_neg (fun e => hne (by rw [e]))]⟩
theorem below_drewN (B : Nat) (w : World) (n : Nat) : Below B w (w.drewN n) := ⟨rfl, rfl, rfl, Nat.le_refl _, fun _ _ => rfl⟩

theorem SOwn.keep {w w' : World} {base base' : Nat} {s : Sg} {hv tv dv cv : Value} {hx tx : List Xr} {B1 B2 : Nat} {row : Option Nat} (h : SOwn w base s hv tv dv cv hx tx B1 B2) (hg : w.grownBy w' row) (hr : ∀ k, row = some k → k < base) (hb : base' ≤ base) : SOwn w' base' s hv tv dv cv hx tx B1 B2 := by
  have l1 := h.le1
  have l2 := h.le2
  have hh := h.head.keep hg hr
  have ht := h.tail.keep hg (fun k hk => by have := hr k hk; omega)
  refine ⟨by omega, l2, ⟨own_base hh.row hb, fun x hx => ⟨own_base (hh.data x hx).row hb, (hh.data x hx).bytes, (hh.data x hx).small, (hh.data x hx).tag⟩, hh.apart, hh.nodup⟩, h.headLt, h.headEq, own_keep h.data hg (fun k hk e => ?_), h.dataLt, h.dataB, h.dataS, own_keep h.clm hg (fun k hk e => ?_), h.clmLt, h.clmS, h.only, ht, h.tailEq, h.few⟩
  · have := (h.data.lt k hk).1; have := hr k e; omega
  · have := (h.clm.lt k hk).1; have := hr k e; omega
theorem sown_step {w2 w' : World} {n k : Nat} {s : Sg} {hv tv dv cv : Value} {hx tx : List Xr} {B1 B2 : Nat} (h : SOwn w2 (n + 2) s hv tv dv cv hx tx B1 B2) (hg : (w2.drewN k).grownBy w' (some n)) : SOwn w' n s hv tv dv cv hx tx B1 B2 :=
  h.keep ⟨hg.os, hg.tape, hg.output, hg.size, hg.block⟩ (by simp) (by omega)

/-- The zero segment stored over the zero segment. -/
def chz (W : World) (g : Nat) : World := ((((((((((((((W.setCell ⟨g, 0, none⟩ (.int .i64 0)).setCell ⟨g, 1, none⟩ (.int .i64 0)).setCell ⟨g, 2, none⟩ (.int .i64 0)).setCell ⟨g, 3, none⟩ (.slice none 0 0)).setCell ⟨g, 4, none⟩ (.slice none 0 0)).setCell ⟨g, 5, none⟩ (.int .i64 0)).setCell ⟨g, 6, none⟩ (.int .i64 0)).setCell ⟨g, 7, none⟩ (.slice none 0 0)).setCell ⟨g, 8, none⟩ (.int .i64 0)).setCell ⟨g, 9, none⟩ (.int .i64 0)).setCell ⟨g, 10, none⟩ (.int .i64 0)).setCell ⟨g, 11, none⟩ (.int .i64 0)).setCell ⟨g, 12, none⟩ (.slice none 0 0)).setCell ⟨g, 13, none⟩ (.int .i64 0))
theorem chz_heap (W : World) (g : Nat) (h : W.heap[g]? = some zO) : (chz W g).heap[g]? = some zO := by
  unfold chz
  simp [World.setCell, Array.getElem?_modify, h]
theorem chz_grown (W : World) (g : Nat) : W.grownBy (chz W g) (some g) := by
  unfold chz
  iterate 13 refine grown_trans ?_ (grown_set _ _ _ _)
  exact grown_set _ _ _ _

theorem prs_bad {zs : List Int} {s : Sg} {st : St} (hl : zs.length ≤ 8192) (h : Step zs segp (0, 0) s st) (hf : st.1 ≠ 0) : prs zs = (st.1, sg0) := by
  have h1 := h Sg Pr.ret
  rw [Pr.bind_ret] at h1
  simp only [fin] at h1
  rw [if_neg (by simp), if_pos hf] at h1
  simp only [List.drop_zero] at h1
  unfold prs
  rw [if_neg (by omega), h1]
theorem prs_good {zs : List Int} {s : Sg} {st : St} (hl : zs.length ≤ 8192) (h : Step zs segp (0, 0) s st) (hf : st.1 = 0) : prs zs = if zs.drop st.2 = [] then (0, s) else (24, sg0) := by
  have h1 := h Sg Pr.ret
  rw [Pr.bind_ret] at h1
  simp only [fin] at h1
  rw [if_neg (by simp), if_neg (by simpa using hf)] at h1
  simp only [List.drop_zero, Pr.ret] at h1
  unfold prs
  rw [if_neg (by omega), h1]
  cases zs.drop st.2 with
  | nil => simp
  | cons c r => simp

end Go.Proofs.YtdfdaambfihjaaaDoor
