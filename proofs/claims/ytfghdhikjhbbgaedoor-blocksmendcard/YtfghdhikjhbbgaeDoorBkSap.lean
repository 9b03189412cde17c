import Derived.Test.YtfghdhikjhbbgaeDoorBkCut
import Derived.WalkSmall
import Derived.Test.YtfghdhikjhbbgaeDoorBkRf1
import Derived.Test.YtfghdhikjhbbgaeDoorBkHas
import Derived.Test.YtfghdhikjhbbgaeDoorBkHom
namespace Go.Proofs.YtfghdhikjhbbgaeDoor
open Go.RowKit

theorem POwn.below {w w' : World} {base : Nat} {v : Value} {l : List Pc} (h : POwn w base v l) (hb : Below w.heap.size w w') : POwn w' base v l := by
  refine ⟨h.1, ?_⟩
  rcases h.2 with q | ⟨g, cap, cur, hv, h1, h2, h3⟩
  · exact .inl q
  · exact .inr ⟨g, cap, cur, hv, h1, (hb.block g (World.ownsRow.lt h g (by rw [hv]; rfl)).2).trans h2, h3⟩
theorem POwn.cells {w : World} {base g n cap : Nat} {l : List Pc} (h : POwn w base (.slice (some ⟨g, 0, none⟩) n cap) l) {i : Nat} {p : Pc} (hp : l[i]? = some p) : w.cell? ⟨g, i * 5, none⟩ = some (.int .i64 p.typ) ∧ w.cell? ⟨g, i * 5 + 1, none⟩ = some (.int .i64 p.frm) ∧ w.cell? ⟨g, i * 5 + 2, none⟩ = some (.int .i64 p.to) ∧ w.cell? ⟨g, i * 5 + 3, none⟩ = some (.int .i64 p.chk) ∧ w.cell? ⟨g, i * 5 + 4, none⟩ = some (.int .i64 p.rep) := by
  have hi : i < l.length := (List.getElem?_eq_some_iff.mp hp).1
  have q := pc_get l i p hp
  obtain ⟨g0, cap0, hv⟩ := own_pos h (by omega)
  simp only [Value.slice.injEq, Option.some.injEq, Addr.mk.injEq, and_true] at hv
  obtain ⟨rfl, rfl, rfl⟩ := hv
  have h' : w.ownsRow base 38 5 (.slice (some ⟨g, 0, none⟩) l.length cap) l.length (l.flatMap pcL) := h
  have c : ∀ j, j < 5 → w.cell? ⟨g, i * 5 + j, none⟩ = (l.flatMap pcL)[i * 5 + j]? := fun j hj => World.ownsRow.cellAt h' _ (by omega)
  exact ⟨(c 0 (by decide)).trans q.1, (c 1 (by decide)).trans q.2.1, (c 2 (by decide)).trans q.2.2.1, (c 3 (by decide)).trans q.2.2.2.1, (c 4 (by decide)).trans q.2.2.2.2⟩

set_option maxHeartbeats 2000000 in
/-- Two rows that say the same. -/
theorem cut_len (k : Pk) (base : Int) : (cut k base).1.length ≤ 131072 := by
  unfold cut
  split
  · simp
  · rename_i h1
    split
    · simp
    · rename_i h2
      split
      · simp
      · have ok := Pk.ok_of (k := k) (by simpa using h1) (by simpa using h2)
        have := cutL_len ok base
        simp only [cutL, List.length_append]
        omega

end Go.Proofs.YtfghdhikjhbbgaeDoor

namespace Go.Proofs.YtfghdhikjhbbgaeDoor
open Go.RowKit

/-- A row that came out, for 'mine'. -/
theorem rw_of {W : World} {base : Nat} {v : Value} {l : List Pc} (h : POwn W base v l) : ∃ r : M.Rw, v = M.sv r ∧ r.n = l.length ∧ (∀ g, r.blk = some g → base ≤ g ∧ g < W.heap.size) ∧ ∀ c, M.Has W 38 .i64 r c 0 := by
  have hlt := World.ownsRow.lt h
  obtain ⟨_, ⟨rfl, h0⟩ | ⟨g, cap, cur, rfl, h1, h2, h3, h4, h5, h6⟩⟩ := h
  · exact ⟨⟨none, 0, 0⟩, rfl, h0.symm, (fun g hg => by cases hg), fun c => .inl ⟨rfl, rfl, rfl⟩⟩
  · refine ⟨⟨some g, l.length, cap⟩, rfl, rfl, (fun g' hg => ?_), fun c => .inr ⟨g, cur, rfl, h2, h5, h4, h3, fun j hj => by omega⟩⟩
    simp only [Option.some.injEq] at hg
    subst hg
    exact hlt _ rfl

def three (a b c : M.Rw) : Nat → M.Rw
  | 0 => a
  | 1 => b
  | _ => c

/-- Three rows, each in its own stretch of blocks. -/
theorem given_three {W : World} {a b c : M.Rw} {s1 s2 s3 s4 B : Nat} (ha : ∀ g, a.blk = some g → s1 ≤ g ∧ g < s2) (hb : ∀ g, b.blk = some g → s2 ≤ g ∧ g < s3) (hc : ∀ g, c.blk = some g → s3 ≤ g ∧ g < s4) (h12 : s1 ≤ s2) (h23 : s2 ≤ s3) (h34 : s4 ≤ W.heap.size) (h33 : s3 ≤ s4) (hB : B ≤ s1)
    (xa : ∀ q, M.Has W 38 .i64 a q 0) (xb : ∀ q, M.Has W 38 .i64 b q 0) (xc : ∀ q, M.Has W 38 .i64 c q 0) :
    M.Given (W.alloc (.cells #[M.sv a, M.sv b, M.sv c] 30)) 38 .i64 3 W.heap.size B (three a b c) := by
  have lo : ∀ i, i < 3 → ∀ g, (three a b c i).blk = some g → s1 ≤ g ∧ g < s4 := fun i hi g hg => by
    match i, hi, hg with
    | 0, _, hg => have := ha g hg; omega
    | 1, _, hg => have := hb g hg; omega
    | 2, _, hg => have := hc g hg; omega
  have kp : ∀ (r : M.Rw) q, M.Has W 38 .i64 r q 0 → M.Has (W.alloc (.cells #[M.sv a, M.sv b, M.sv c] 30)) 38 .i64 r q 0 := fun r q h => h.keep fun g _ hg => Below.heap_alloc _ _ _ hg
  refine ⟨fun i hi => ?_, fun i hi => ?_, fun i j hi hj hij g hg hg' => ?_, fun i hi hg => ?_, fun i hi g hg => ?_, ?_, by simp⟩
  · match i, hi with
    | 0, _ => simp [three]
    | 1, _ => simp [three]
    | 2, _ => simp [three]
  · match i, hi with
    | 0, _ => exact ⟨0, kp _ _ (xa 0)⟩
    | 1, _ => exact ⟨0, kp _ _ (xb 0)⟩
    | 2, _ => exact ⟨0, kp _ _ (xc 0)⟩
  · match i, hi, j, hj, hg, hg' with
    | 0, _, 0, _, _, _ => exact hij rfl
    | 0, _, 1, _, hg, hg' => have := ha g hg; have := hb g hg'; omega
    | 0, _, 2, _, hg, hg' => have := ha g hg; have := hc g hg'; omega
    | 1, _, 0, _, hg, hg' => have := hb g hg; have := ha g hg'; omega
    | 1, _, 1, _, _, _ => exact hij rfl
    | 1, _, 2, _, hg, hg' => have := hb g hg; have := hc g hg'; omega
    | 2, _, 0, _, hg, hg' => have := hc g hg; have := ha g hg'; omega
    | 2, _, 1, _, hg, hg' => have := hc g hg; have := hb g hg'; omega
    | 2, _, 2, _, _, _ => exact hij rfl
  · have := lo i hi _ hg; omega
  · have := lo i hi _ hg; omega
  · simp; omega

end Go.Proofs.YtfghdhikjhbbgaeDoor
