import Derived.Test.YtdfdaambfihjaaaDoorLnL
import Derived.Test.YtdfdaambfihjaaaDoorSmI
namespace Go.Proofs.YtdfdaambfihjaaaDoor.L
open Go.RowKit
set_option linter.unusedVariables false
set_option linter.unusedSimpArgs false

/-! ## A segment in memory of its own -/
/-- What holds wherever the blocks from lo on are as in w. -/
def Stb (P : World → Prop) (lo : Nat) (w : World) : Prop := ∀ w', (∀ g, lo ≤ g → g < w.heap.size → w'.heap[g]? = w.heap[g]?) → P w'
theorem Stb.keep {P : World → Prop} {lo : Nat} {w w' : World} (h : Stb P lo w) (hs : w.heap.size ≤ w'.heap.size) (hb : ∀ g, lo ≤ g → g < w.heap.size → w'.heap[g]? = w.heap[g]?) : Stb P lo w' := fun w2 h2 => h w2 (fun g h0 h1 => (h2 g h0 (Nat.lt_of_lt_of_le h1 hs)).trans (hb g h0 h1))
theorem Stb.low {P : World → Prop} {lo lo' : Nat} {w : World} (h : Stb P lo w) (hl : lo' ≤ lo) : Stb P lo' w := fun w2 h2 => h w2 (fun g h0 h1 => h2 g (by omega) h1)
theorem own_bounds {w : World} {base n c : Nat} {e : TypeId} {a : Option Addr} {xs : List Value} (h : w.ownsRow base e 1 (.slice a n c) n xs) : n ≤ c ∧ c ≤ 9223372036854775807 ∧ (a = none → n = 0 ∧ c = 0) := by
  obtain ⟨_, ⟨e1, e0⟩ | ⟨g, cap, cur, e1, _, _, h4, h5, _⟩⟩ := h
  · simp only [Value.slice.injEq] at e1
    exact ⟨by omega, by omega, fun _ => ⟨by omega, by omega⟩⟩
  · simp only [Value.slice.injEq] at e1
    obtain ⟨rfl, _, rfl⟩ := e1
    unfold maxLen at h5
    exact ⟨h4, h5, fun e => by cases e⟩
theorem bin_own {w : World} {base : Nat} {v : Value} {zs : List Int} (h : w.ownsRow base 5 1 v zs.length (zs.map (Value.int .u8))) (hb : Bytey zs) (hs : zs.length ≤ 1048576) : BIn w v zs := by
  obtain ⟨a, c, rfl⟩ := own_shape h
  obtain ⟨b1, b2, b3⟩ := own_bounds h
  exact ⟨⟨a, c, rfl, (own_lies h).1, b3, b1, b2⟩, hb, by omega⟩
theorem flat2_get {α : Type} (f : α → List Value) (hf : ∀ x, (f x).length = 2) : ∀ (l : List α) (i : Nat) (p : α), l[i]? = some p → (l.flatMap f)[i * 2]? = (f p)[0]? ∧ (l.flatMap f)[i * 2 + 1]? = (f p)[1]?
  | [], i, p, h => by simp at h
  | s :: r, 0, p, h => by
    simp at h
    subst h
    have h2 := hf s
    rw [List.flatMap_cons]
    exact ⟨by rw [List.getElem?_append_left (by omega)], by rw [List.getElem?_append_left (by omega)]⟩
  | s :: r, i + 1, p, h => by
    simp at h
    have h1 := flat2_get f hf r i p h
    have h2 := hf s
    have e : ∀ j, ((s :: r).flatMap f)[(i + 1) * 2 + j]? = (r.flatMap f)[i * 2 + j]? := fun j => by
      rw [List.flatMap_cons, List.getElem?_append_right (by omega)]
      congr 1
      omega
    exact ⟨(e 0).trans h1.1, (e 1).trans h1.2⟩
theorem own_nz {w : World} {base n sz : Nat} {e : TypeId} {v : Value} {xs : List Value} (h : w.ownsRow base e sz v n xs) (hn : 0 < n) : ∃ g cap, v = .slice (some ⟨g, 0, none⟩) n cap := by
  obtain ⟨_, ⟨rfl, rfl⟩ | ⟨g, cap, cur, rfl, _⟩⟩ := h
  · omega
  · exact ⟨g, cap, rfl⟩
theorem xin_own {w : World} {base : Nat} {v : Value} {xs : List Xr} (h : XOwn w base v xs) (hl : xs.length ≤ 15) : XIn w v xs := by
  refine ⟨?_, fun x hx => bin_own (h.data x hx).row (h.data x hx).bytes (by have := (h.data x hx).small; omega), by omega⟩
  rcases Nat.eq_zero_or_pos xs.length with h0 | h0
  · obtain ⟨a, c, rfl⟩ := own_shape h.row
    exact ⟨a, c, rfl, .inl (List.eq_nil_of_length_eq_zero h0)⟩
  · obtain ⟨g, cap, hv⟩ := own_nz h.row h0
    have hr := h.row
    rw [hv] at hr ⊢
    refine ⟨_, cap, rfl, .inr ⟨g, 0, rfl, fun i x hx => ?_⟩⟩
    have hi : i < xs.length := (List.getElem?_eq_some_iff.mp hx).1
    have q := flat2_get Xr.cells (fun _ => rfl) xs i x hx
    rw [Nat.zero_add]
    exact ⟨(World.ownsRow.cellAt hr _ (by omega)).trans q.1, (World.ownsRow.cellAt hr _ (by omega)).trans q.2⟩
theorem cin_own {w : World} {base : Nat} {v : Value} {cl : List (Int × Int)} (h : w.ownsRow base 91 2 v cl.length (cl.flatMap spL)) (hl : cl.length ≤ 1048576) : CIn w v cl := by
  refine ⟨?_, hl⟩
  rcases Nat.eq_zero_or_pos cl.length with h0 | h0
  · obtain ⟨a, c, rfl⟩ := own_shape h
    exact ⟨a, c, rfl, .inl (List.eq_nil_of_length_eq_zero h0)⟩
  · obtain ⟨g, cap, hv⟩ := own_nz h h0
    rw [hv] at h ⊢
    refine ⟨_, cap, rfl, .inr ⟨g, 0, rfl, fun i x hx => ?_⟩⟩
    have hi : i < cl.length := (List.getElem?_eq_some_iff.mp hx).1
    have q := flat2_get spL (fun _ => rfl) cl i x hx
    rw [Nat.zero_add]
    exact ⟨(World.ownsRow.cellAt h _ (by omega)).trans q.1, (World.ownsRow.cellAt h _ (by omega)).trans q.2⟩
theorem own_stb {base n sz lo : Nat} {e : TypeId} {v : Value} {xs : List Value} {w : World} (h : w.ownsRow base e sz v n xs) (hl : lo ≤ base) : Stb (fun W => W.ownsRow base e sz v n xs) lo w := fun w' hw => own_blk h (fun g hg => hw g (by have := (h.lt g hg).1; omega) (h.lt g hg).2)
theorem xown_stb {base : Nat} {v : Value} {xs : List Xr} {w : World} (h : XOwn w base v xs) : Stb (fun W => XOwn W base v xs) base w := fun w' hw =>
  ⟨own_stb h.row (Nat.le_refl _) w' hw, fun x hx => ⟨own_stb (h.data x hx).row (Nat.le_refl _) w' hw, (h.data x hx).bytes, (h.data x hx).small, (h.data x hx).tag⟩, h.apart, h.nodup⟩

/-- A segment as it lies. -/
def SAt (w : World) (y : Sv) : Prop := ∃ hx tx, SIn w y.s y.hv y.tv y.dv y.cv hx tx
theorem SAt.sl {w : World} {y : Sv} (h : SAt w y) : y.Sl := by
  obtain ⟨hx, tx, h⟩ := h
  obtain ⟨a, c, e, _⟩ := h.head.shape
  obtain ⟨a2, c2, e2, _⟩ := h.tail.shape
  obtain ⟨a3, c3, e3, _⟩ := h.data.shape
  obtain ⟨a4, c4, e4, _⟩ := h.clm.shape
  exact ⟨⟨_, _, _, e⟩, ⟨_, _, _, e2⟩, ⟨_, _, _, e3⟩, _, _, _, e4⟩
def XsB (xs : List Xr) : Prop := xs.length ≤ 15 ∧ ∀ x ∈ xs, x.data.length ≤ 70000 ∧ 0 ≤ x.tag ∧ x.tag ≤ 255

theorem cpX {v : Value} {xs : List Xr} {w : World} (h : XIn w v xs) (hb : XsB xs) :
    Calls Tryd.prog 59 #[v] w fun e w' => ∃ a c, e = .returned (.slice a xs.length c) ∧ Stb (fun W => ∃ ys, XIn W (.slice a xs.length c) ys ∧ ys.map Xr.ex = xs.map Xr.ex) w.heap.size w' ∧ Below w.heap.size w w' := by
  refine (lnX_any h hb.2).mono ?_
  rintro e w' ⟨a, c, ys, rfl, h1, h2, h3, h4⟩
  exact ⟨a, c, rfl, fun W hW => ⟨ys, xin_own (xown_stb h1 W hW) (by have := hb.1; omega), h3⟩, h4⟩
theorem cpB {v : Value} {zs : List Int} {w : World} (h : BIn w v zs) :
    Calls Tryd.prog 60 #[v] w fun e w' => ∃ a c, e = .returned (.slice a zs.length c) ∧ Stb (fun W => BIn W (.slice a zs.length c) zs) w.heap.size w' ∧ Below w.heap.size w w' := by
  have hb := h.bytes
  have hs := h.small
  refine (lnB_any h).mono ?_
  rintro e w' ⟨a, c, rfl, h1, h4⟩
  exact ⟨a, c, rfl, fun W hW => bin_own (own_stb h1 (Nat.le_refl _) W hW) hb hs, h4⟩
theorem cpS {v : Value} {cl : List (Int × Int)} {w : World} (h : CIn w v cl) :
    Calls Tryd.prog 61 #[v] w fun e w' => ∃ a c, e = .returned (.slice a cl.length c) ∧ Stb (fun W => CIn W (.slice a cl.length c) cl) w.heap.size w' ∧ Below w.heap.size w w' := by
  have hs := h.small
  refine (lnS_any h).mono ?_
  rintro e w' ⟨a, c, rfl, h1, h4⟩
  exact ⟨a, c, rfl, fun W hW => cin_own (own_stb h1 (Nat.le_refl _) W hW) hs, h4⟩

end Go.Proofs.YtdfdaambfihjaaaDoor.L
