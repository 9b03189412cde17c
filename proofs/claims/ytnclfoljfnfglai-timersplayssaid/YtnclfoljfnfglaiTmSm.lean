import Derived.Test.YtnclfoljfnfglaiTmLw2
import Derived.Test.YtnclfoljfnfglaiTmSrf
namespace Go.Proofs.Ytnclfoljfnfglai
open Go.RowKit Go.Maps
set_option linter.unusedVariables false

/-! ## Keys of few numbers -/
def smallK (k : Kx) : Prop := (1 ≤ k.1 ∧ k.1 ≤ 3) ∧ (1 ≤ k.2.1 ∧ k.2.1 ≤ 3) ∧ (1 ≤ k.2.2.1 ∧ k.2.2.1 ≤ 3) ∧ (1 ≤ k.2.2.2.1 ∧ k.2.2.2.1 ≤ 4) ∧ (0 ≤ k.2.2.2.2 ∧ k.2.2.2.2 ≤ 3)
theorem rgt_small (k : Kx) : smallK (rgt k) := by
  have h1 := pk_lo k.1 3 (by omega)
  have h2 := pk_hi k.1 3 (by omega)
  have h3 := pk_lo k.2.1 3 (by omega)
  have h4 := pk_hi k.2.1 3 (by omega)
  have h5 := pk_lo k.2.2.1 3 (by omega)
  have h6 := pk_hi k.2.2.1 3 (by omega)
  have h7 := pk_lo k.2.2.2.1 4 (by omega)
  have h8 := pk_hi k.2.2.2.1 4 (by omega)
  have h9 := pk_lo k.2.2.2.2 4 (by omega)
  have h10 := pk_hi k.2.2.2.2 4 (by omega)
  unfold smallK rgt
  simp only
  omega
def codeK (k : Kx) : Nat := (((((k.1 - 1) * 3 + (k.2.1 - 1)) * 3 + (k.2.2.1 - 1)) * 4 + (k.2.2.2.1 - 1)) * 4 + k.2.2.2.2).toNat
theorem code_lt {k : Kx} (h : smallK k) : codeK k < 432 := by
  unfold smallK at h
  unfold codeK
  omega
theorem code_inj {k k' : Kx} (h : smallK k) (h' : smallK k') (e : codeK k = codeK k') : k = k' := by
  obtain ⟨a, b, c, d, f⟩ := k
  obtain ⟨a', b', c', d', f'⟩ := k'
  unfold smallK at h h'
  unfold codeK at e
  simp only at h h' e
  simp only [Prod.mk.injEq]
  omega
theorem nd_le : ∀ (n : Nat) (l : List Nat), l.Nodup → (∀ x ∈ l, x < n) → l.length ≤ n
  | 0, l, _, h => by
    cases l with
    | nil => simp
    | cons x r => exact absurd (h x (by simp)) (by omega)
  | n + 1, l, hn, h => by
    have h1 := nd_le n (l.erase n) (hn.erase n) (fun x hx => by
      have h2 := (hn.mem_erase_iff).mp hx
      have h3 := h x h2.2
      omega)
    by_cases e : n ∈ l
    · rw [List.length_erase_of_mem e] at h1; omega
    · rw [List.erase_of_not_mem e] at h1; omega
theorem nd_code {α : Type} (f : α → Nat) (n : Nat) (l : List α) (hn : l.Nodup) (hf : ∀ x ∈ l, ∀ y ∈ l, f x = f y → x = y) (hb : ∀ x ∈ l, f x < n) : l.length ≤ n := by
  have h1 : (l.map f).Nodup := by
    unfold List.Nodup at *
    rw [List.pairwise_map]
    exact hn.imp_of_mem (fun {a b} ha hb' h e => h (hf a ha b hb' e))
  have h2 := nd_le n (l.map f) h1 (fun x hx => by
    obtain ⟨y, hy, rfl⟩ := List.mem_map.mp hx
    exact hb y hy)
  simpa using h2
theorem smallK.kW {k : Kx} (h : smallK k) : kW k := by
  obtain ⟨h1, h2, h3, h4, h5⟩ := h
  exact ⟨kI_of (by omega), kI_of (by omega), kI_of (by omega), kI_of (by omega), kI_of (by omega)⟩

/-! ## What came in -/
def Sta (w : World) (a : Option Addr) (l : Tl) : Prop := l = [] ∨ ∃ g off, a = some ⟨g, off, none⟩ ∧ ∀ (i : Nat) (x : Kx × Int), l[i]? = some x →
  w.cell? ⟨g, off + i * 6, none⟩ = some (.int .i64 x.1.1) ∧ w.cell? ⟨g, off + i * 6 + 1, none⟩ = some (.int .i64 x.1.2.1) ∧ w.cell? ⟨g, off + i * 6 + 2, none⟩ = some (.int .i64 x.1.2.2.1) ∧ w.cell? ⟨g, off + i * 6 + 3, none⟩ = some (.int .i64 x.1.2.2.2.1) ∧ w.cell? ⟨g, off + i * 6 + 4, none⟩ = some (.int .i64 x.1.2.2.2.2) ∧ w.cell? ⟨g, off + i * 6 + 5, none⟩ = some (.int .i64 x.2)
theorem tm_cell {w w' : World} {g o : Nat} {u : Value} (h : w.cell? ⟨g, o, none⟩ = some u) (hb : Below w.heap.size w w') : w'.cell? ⟨g, o, none⟩ = some u :=
  (hb.cell (p := ⟨g, o, none⟩) (World.block_lt_of_cell? w ⟨g, o, none⟩ h)).trans h
theorem Sta.below {w w' : World} {a : Option Addr} {l : Tl} (h : Sta w a l) (hb : Below w.heap.size w w') : Sta w' a l := by
  rcases h with h | ⟨g, off, ha, h⟩
  · exact .inl h
  · exact .inr ⟨g, off, ha, fun i c hc => by
      obtain ⟨h0, h1, h2, h3, h4, h5⟩ := h i c hc
      exact ⟨tm_cell h0 hb, tm_cell h1 hb, tm_cell h2 hb, tm_cell h3 hb, tm_cell h4 hb, tm_cell h5 hb⟩⟩
def Itt (w : World) (a : Option Addr) (l : List Int) : Prop := l = [] ∨ ∃ g off, a = some ⟨g, off, none⟩ ∧ ∀ (i : Nat) (x : Int), l[i]? = some x → w.cell? ⟨g, off + i, none⟩ = some (.int .i64 x)
theorem Itt.below {w w' : World} {a : Option Addr} {l : List Int} (h : Itt w a l) (hb : Below w.heap.size w w') : Itt w' a l := by
  rcases h with h | ⟨g, off, ha, h⟩
  · exact .inl h
  · exact .inr ⟨g, off, ha, fun i c hc => tm_cell (h i c hc) hb⟩

end Go.Proofs.Ytnclfoljfnfglai
