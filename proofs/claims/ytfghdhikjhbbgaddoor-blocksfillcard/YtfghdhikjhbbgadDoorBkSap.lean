import Derived.Test.YtfghdhikjhbbgadDoorBkCut
import Derived.WalkSmall
import Derived.Test.YtfghdhikjhbbgadDoorBkRf1
import Derived.Test.YtfghdhikjhbbgadDoorBkHas
import Derived.Test.YtfghdhikjhbbgadDoorBkHom
namespace Go.Proofs.YtfghdhikjhbbgadDoor
open Go.RowKit

theorem POwn.below {w w' : World} {base : Nat} {v : Value} {l : List Pc} (h : POwn w base v l) (hb : Below w.heap.size w w') : POwn w' base v l := by
  refine ⟨h.1, ?_⟩
  rcases h.2 with q | ⟨g, cap, cur, hv, h1, h2, h3⟩
  · exact .inl q
  · exact .inr ⟨g, cap, cur, hv, h1, (hb.block g (World.ownsRow.lt h g (by rw [hv]; rfl)).2).trans h2, h3⟩
theorem POwn.cells {w : World} {base g n cap : Nat} {l : List Pc} (h : POwn w base (.slice (some ⟨g, 0, none⟩) n cap) l) {i : Nat} {p : Pc} (hp : l[i]? = some p) : w.cell? ⟨g, i * 5, none⟩ = some (.int .i64 p.typ) ∧ w.cell? ⟨g, i * 5 + 1, none⟩ = some (.int .i64 p.frm) ∧ w.cell? ⟨g, i * 5 + 2, none⟩ = some (.int .i64 p.to) ∧ w.cell? ⟨g, i * 5 + 3, none⟩ = some (.int .i64 p.chk) ∧ w.cell? ⟨g, i * 5 + 4, none⟩ = some (.int .i64 p.rep) := by
  have hi : i < l.length := (List.getElem?_eq_some_iff.mp hp).1
  have q := pc_get l i p hp
  obtain ⟨g0, cap0, hv⟩ := own_pos h (by omega)
  simp only [Value.slice.injEq, Option.some.injEq, Addr.mk.injEq, and_true] at hv
  obtain ⟨rfl, rfl, rfl⟩ := hv
  have h' : w.ownsRow base 46 5 (.slice (some ⟨g, 0, none⟩) l.length cap) l.length (l.flatMap pcL) := h
  have c : ∀ j, j < 5 → w.cell? ⟨g, i * 5 + j, none⟩ = (l.flatMap pcL)[i * 5 + j]? := fun j hj => World.ownsRow.cellAt h' _ (by omega)
  exact ⟨(c 0 (by decide)).trans q.1, (c 1 (by decide)).trans q.2.1, (c 2 (by decide)).trans q.2.2.1, (c 3 (by decide)).trans q.2.2.2.1, (c 4 (by decide)).trans q.2.2.2.2⟩

set_option maxHeartbeats 2000000 in
/-- Two rows that say the same. -/
theorem samepc_eq {va vb : Value} {l : List Pc} {base base' : Nat} {w : World} (h : POwn w base va l) (h' : POwn w base' vb l) (hl : l.length ≤ 1048576) :
    Calls Tryd.prog 13 #[va, vb] w fun e w' => e = .returned (.bool true) ∧ Below w.heap.size w w' := by
  obtain ⟨a, c, rfl⟩ := own_shp h
  obtain ⟨b, d, rfl⟩ := own_shp h'
  have HA : Hid (POwn w base (.slice a l.length c) l) := h
  have HB : Hid (POwn w base' (.slice b l.length d) l) := h'
  clear h h'
  go_enter Tryd.func13, Tryd.ntmps13
  go_wp2_with fail
  go_loopw [5] (fun x wr => ∃ i : Nat, i ≤ l.length ∧ x = .int .i64 i ∧ Below w.heap.size w wr) (fun x _ => l.length - (intOf x).toNat)
  case atStart => exact ⟨0, by omega, rfl, Below.refl _ _⟩
  case round =>
    obtain ⟨i, hil, rfl, hbe⟩ := hrel
    have HBe : Hid (Below w.heap.size w wr) := hbe
    by_cases hi : i < l.length
    · have hi' : (i : Int) < (l.length : Int) := by omega
      have hp : l[i]? = some l[i] := List.getElem?_eq_getElem hi
      generalize l[i] = p at hp
      have hA := HA.out.below hbe
      have hB := HB.out.below hbe
      obtain ⟨L, lc, hL⟩ := own_pos hA (by omega)
      obtain ⟨M, mc, hM⟩ := own_pos hB (by omega)
      simp only [Value.slice.injEq, true_and] at hL hM
      obtain ⟨rfl, rfl⟩ := hL
      obtain ⟨rfl, rfl⟩ := hM
      obtain ⟨q0, q1, q2, q3, q4⟩ := hA.cells hp
      obtain ⟨r0, r1, r2, r3, r4⟩ := hB.cells hp
      clear hbe hA hB hp
      obtain ⟨p0, p1, p2, p3, p4⟩ := p
      simp only at q0 q1 q2 q3 q4 r0 r1 r2 r3 r4
      go_wp2_with fail
      go_quiet (fail)
      go_wp2
      go_roundw
      case rel => exact ⟨i + 1, by omega, by go_num, below_drewN HBe.out _⟩
      case measure => simp [intOf]; omega
    · have hi' : ¬ (i : Int) < (l.length : Int) := by omega
      clear hbe
      go_wp2
      go_ret
      exact ⟨rfl, HBe.out⟩

theorem cut_len (k : Pk) (base : Int) : (cut k base).1.length ≤ 131072 := by
  unfold cut
  split
  · simp
  · rename_i h1
    split
    · simp
    · rename_i h2
      split
      · simp
      · have ok := Pk.ok_of (k := k) (by simpa using h1) (by simpa using h2)
        have := cutL_len ok base
        simp only [cutL, List.length_append]
        omega

end Go.Proofs.YtfghdhikjhbbgadDoor

namespace Go.Proofs.YtfghdhikjhbbgadDoor
open Go.RowKit

/-- A row that came out, for 'mine'. -/
theorem rw_of {W : World} {base : Nat} {v : Value} {l : List Pc} (h : POwn W base v l) : ∃ r : M.Rw, v = M.sv r ∧ r.n = l.length ∧ (∀ g, r.blk = some g → base ≤ g ∧ g < W.heap.size) ∧ ∀ c, M.Has W 46 .i64 r c 0 := by
  have hlt := World.ownsRow.lt h
  obtain ⟨_, ⟨rfl, h0⟩ | ⟨g, cap, cur, rfl, h1, h2, h3, h4, h5, h6⟩⟩ := h
  · exact ⟨⟨none, 0, 0⟩, rfl, h0.symm, (fun g hg => by cases hg), fun c => .inl ⟨rfl, rfl, rfl⟩⟩
  · refine ⟨⟨some g, l.length, cap⟩, rfl, rfl, (fun g' hg => ?_), fun c => .inr ⟨g, cur, rfl, h2, h5, h4, h3, fun j hj => by omega⟩⟩
    simp only [Option.some.injEq] at hg
    subst hg
    exact hlt _ rfl

def three (a b c : M.Rw) : Nat → M.Rw
  | 0 => a
  | 1 => b
  | _ => c

/-- Three rows, each in its own stretch of blocks. -/
theorem given_three {W : World} {a b c : M.Rw} {s1 s2 s3 s4 B : Nat} (ha : ∀ g, a.blk = some g → s1 ≤ g ∧ g < s2) (hb : ∀ g, b.blk = some g → s2 ≤ g ∧ g < s3) (hc : ∀ g, c.blk = some g → s3 ≤ g ∧ g < s4) (h12 : s1 ≤ s2) (h23 : s2 ≤ s3) (h34 : s4 ≤ W.heap.size) (h33 : s3 ≤ s4) (hB : B ≤ s1)
    (xa : ∀ q, M.Has W 46 .i64 a q 0) (xb : ∀ q, M.Has W 46 .i64 b q 0) (xc : ∀ q, M.Has W 46 .i64 c q 0) :
    M.Given (W.alloc (.cells #[M.sv a, M.sv b, M.sv c] 31)) 46 .i64 3 W.heap.size B (three a b c) := by
  have lo : ∀ i, i < 3 → ∀ g, (three a b c i).blk = some g → s1 ≤ g ∧ g < s4 := fun i hi g hg => by
    match i, hi, hg with
    | 0, _, hg => have := ha g hg; omega
    | 1, _, hg => have := hb g hg; omega
    | 2, _, hg => have := hc g hg; omega
  have kp : ∀ (r : M.Rw) q, M.Has W 46 .i64 r q 0 → M.Has (W.alloc (.cells #[M.sv a, M.sv b, M.sv c] 31)) 46 .i64 r q 0 := fun r q h => h.keep fun g _ hg => Below.heap_alloc _ _ _ hg
  refine ⟨fun i hi => ?_, fun i hi => ?_, fun i j hi hj hij g hg hg' => ?_, fun i hi hg => ?_, fun i hi g hg => ?_, ?_, by simp⟩
  · match i, hi with
    | 0, _ => simp [three]
    | 1, _ => simp [three]
    | 2, _ => simp [three]
  · match i, hi with
    | 0, _ => exact ⟨0, kp _ _ (xa 0)⟩
    | 1, _ => exact ⟨0, kp _ _ (xb 0)⟩
    | 2, _ => exact ⟨0, kp _ _ (xc 0)⟩
  · match i, hi, j, hj, hg, hg' with
    | 0, _, 0, _, _, _ => exact hij rfl
    | 0, _, 1, _, hg, hg' => have := ha g hg; have := hb g hg'; omega
    | 0, _, 2, _, hg, hg' => have := ha g hg; have := hc g hg'; omega
    | 1, _, 0, _, hg, hg' => have := hb g hg; have := ha g hg'; omega
    | 1, _, 1, _, _, _ => exact hij rfl
    | 1, _, 2, _, hg, hg' => have := hb g hg; have := hc g hg'; omega
    | 2, _, 0, _, hg, hg' => have := hc g hg; have := ha g hg'; omega
    | 2, _, 1, _, hg, hg' => have := hc g hg; have := hb g hg'; omega
    | 2, _, 2, _, _, _ => exact hij rfl
  · have := lo i hi _ hg; omega
  · have := lo i hi _ hg; omega
  · simp; omega

set_option maxHeartbeats 16000000 in
set_option maxRecDepth 100000 in
theorem cuts_walk (k k' : Pk) (b b' : Int) (w : World) (hT : Tab w) :
    Calls Tryd.prog 4 #[.agg #[.int .i64 k.org, .int .i64 k.num, .int .i64 k.srv, .int .i64 k.size, .int .i64 k.red, .int .i64 k.mtu, .int .i64 k.every, .int .i64 b], .agg #[.int .i64 k'.org, .int .i64 k'.num, .int .i64 k'.srv, .int .i64 k'.size, .int .i64 k'.red, .int .i64 k'.mtu, .int .i64 k'.every, .int .i64 b']] w fun e w' => e = .returned (.bool true) ∧ Below w.heap.size w w' := by
  have HT : Hid (∀ W, Below w.heap.size w W → Tab W) := fun W hW => hT.below hW (tab_pos hT)
  have L1 := cut_len k b
  have L2 := cut_len k' b'
  have HC1 : Hid (∀ W, Below w.heap.size w W → Calls Tryd.prog 11 #[.agg #[.int .i64 k.org, .int .i64 k.num], .agg #[.int .i64 k.srv, .int .i64 k.size, .int .i64 k.red, .int .i64 k.mtu, .int .i64 k.every], .int .i64 b] W (CutPost (cut k b) W)) := fun W hW => cut_any k b W (HT.out W hW)
  have HC2 : Hid (∀ W, Below w.heap.size w W → Calls Tryd.prog 11 #[.agg #[.int .i64 k'.org, .int .i64 k'.num], .agg #[.int .i64 k'.srv, .int .i64 k'.size, .int .i64 k'.red, .int .i64 k'.mtu, .int .i64 k'.every], .int .i64 b'] W (CutPost (cut k' b') W)) := fun W hW => cut_any k' b' W (HT.out W hW)
  have HD1 : Hid (∀ W, Calls Tryd.prog 12 #[.agg #[.int .i64 k.org, .int .i64 k.num], .agg #[.int .i64 k.srv, .int .i64 k.size, .int .i64 k.red, .int .i64 k.mtu, .int .i64 k.every], .int .i64 b] W (CutPost (cut k b) W)) := fun W => cut2_any k b W
  have HD2 : Hid (∀ W, Calls Tryd.prog 12 #[.agg #[.int .i64 k'.org, .int .i64 k'.num], .agg #[.int .i64 k'.srv, .int .i64 k'.size, .int .i64 k'.red, .int .i64 k'.mtu, .int .i64 k'.every], .int .i64 b'] W (CutPost (cut k' b') W)) := fun W => cut2_any k' b' W
  generalize cut k b = r at *
  generalize cut k' b' = r' at *
  obtain ⟨l, er⟩ := r
  obtain ⟨l', er'⟩ := r'
  simp only at L1 L2
  have HW0 : Hid (Below w.heap.size w ((w.alloc (.cells #[.int .i64 k.org, .int .i64 k.num, .int .i64 k.srv, .int .i64 k.size, .int .i64 k.red, .int .i64 k.mtu, .int .i64 k.every, .int .i64 b] 30)).alloc (.cells #[.int .i64 k'.org, .int .i64 k'.num, .int .i64 k'.srv, .int .i64 k'.size, .int .i64 k'.red, .int .i64 k'.mtu, .int .i64 k'.every, .int .i64 b'] 30))) := ((Below.refl _ _).alloc (Nat.le_refl _) _).alloc (by simp) _
  have x0 : ((w.alloc (.cells #[.int .i64 k.org, .int .i64 k.num, .int .i64 k.srv, .int .i64 k.size, .int .i64 k.red, .int .i64 k.mtu, .int .i64 k.every, .int .i64 b] 30)).alloc (.cells #[.int .i64 k'.org, .int .i64 k'.num, .int .i64 k'.srv, .int .i64 k'.size, .int .i64 k'.red, .int .i64 k'.mtu, .int .i64 k'.every, .int .i64 b'] 30)).heap[w.heap.size]? = some (.cells #[.int .i64 k.org, .int .i64 k.num, .int .i64 k.srv, .int .i64 k.size, .int .i64 k.red, .int .i64 k.mtu, .int .i64 k.every, .int .i64 b] 30) := (Below.heap_alloc _ _ _ (by simp)).trans (heap_alloc_new' w _)
  have x1 : ((w.alloc (.cells #[.int .i64 k.org, .int .i64 k.num, .int .i64 k.srv, .int .i64 k.size, .int .i64 k.red, .int .i64 k.mtu, .int .i64 k.every, .int .i64 b] 30)).alloc (.cells #[.int .i64 k'.org, .int .i64 k'.num, .int .i64 k'.srv, .int .i64 k'.size, .int .i64 k'.red, .int .i64 k'.mtu, .int .i64 k'.every, .int .i64 b'] 30)).heap[w.heap.size + 1]? = some (.cells #[.int .i64 k'.org, .int .i64 k'.num, .int .i64 k'.srv, .int .i64 k'.size, .int .i64 k'.red, .int .i64 k'.mtu, .int .i64 k'.every, .int .i64 b'] 30) := by have := heap_alloc_new' (w.alloc (.cells #[.int .i64 k.org, .int .i64 k.num, .int .i64 k.srv, .int .i64 k.size, .int .i64 k.red, .int .i64 k.mtu, .int .i64 k.every, .int .i64 b] 30)) (.cells #[.int .i64 k'.org, .int .i64 k'.num, .int .i64 k'.srv, .int .i64 k'.size, .int .i64 k'.red, .int .i64 k'.mtu, .int .i64 k'.every, .int .i64 b'] 30); rw [World.size_alloc] at this; exact this
  have xs : ((w.alloc (.cells #[.int .i64 k.org, .int .i64 k.num, .int .i64 k.srv, .int .i64 k.size, .int .i64 k.red, .int .i64 k.mtu, .int .i64 k.every, .int .i64 b] 30)).alloc (.cells #[.int .i64 k'.org, .int .i64 k'.num, .int .i64 k'.srv, .int .i64 k'.size, .int .i64 k'.red, .int .i64 k'.mtu, .int .i64 k'.every, .int .i64 b'] 30)).heap.size = w.heap.size + 2 := by simp
  have hA := awake4_any ((w.alloc (.cells #[.int .i64 k.org, .int .i64 k.num, .int .i64 k.srv, .int .i64 k.size, .int .i64 k.red, .int .i64 k.mtu, .int .i64 k.every, .int .i64 b] 30)).alloc (.cells #[.int .i64 k'.org, .int .i64 k'.num, .int .i64 k'.srv, .int .i64 k'.size, .int .i64 k'.red, .int .i64 k'.mtu, .int .i64 k'.every, .int .i64 b'] 30)) (hT.below HW0.out (tab_pos hT))
  clear hT
  go_enter Tryd.func4, Tryd.ntmps4
  go_wp2_with fail
  generalize ((w.alloc (.cells #[.int .i64 k.org, .int .i64 k.num, .int .i64 k.srv, .int .i64 k.size, .int .i64 k.red, .int .i64 k.mtu, .int .i64 k.every, .int .i64 b] 30)).alloc (.cells #[.int .i64 k'.org, .int .i64 k'.num, .int .i64 k'.srv, .int .i64 k'.size, .int .i64 k'.red, .int .i64 k'.mtu, .int .i64 k'.every, .int .i64 b'] 30)) = X0 at *
  refine hA.mono ?_
  rintro e w1 ⟨rfl, hb1⟩
  have HW1 : Hid (Below w.heap.size w w1) := HW0.out.trans (hb1.mono HW0.out.size)
  have s1 : w.heap.size + 2 ≤ w1.heap.size := by have := hb1.size; omega
  have HX : Hid (∀ W, Below w1.heap.size w1 W → W.heap[w.heap.size]? = some (.cells #[.int .i64 k.org, .int .i64 k.num, .int .i64 k.srv, .int .i64 k.size, .int .i64 k.red, .int .i64 k.mtu, .int .i64 k.every, .int .i64 b] 30) ∧ W.heap[w.heap.size + 1]? = some (.cells #[.int .i64 k'.org, .int .i64 k'.num, .int .i64 k'.srv, .int .i64 k'.size, .int .i64 k'.red, .int .i64 k'.mtu, .int .i64 k'.every, .int .i64 b'] 30)) := fun W hW => ⟨(hW.block _ (by omega)).trans ((hb1.block _ (by omega)).trans x0), (hW.block _ (by omega)).trans ((hb1.block _ (by omega)).trans x1)⟩
  have HY1 : Hid (Below w1.heap.size w1 w1) := Below.refl _ _
  clear hA hb1 x0 x1 xs HW0
  have hx := (HX.out w1 HY1.out).1
  have a0 : w1.cell? ⟨w.heap.size, 0, none⟩ = some (.int .i64 k.org) := cell_of_row _ _ 0 _ _ _ hx
  have a1 : w1.cell? ⟨w.heap.size, 1, none⟩ = some (.int .i64 k.num) := cell_of_row _ _ 1 _ _ _ hx
  have a2 : w1.cell? ⟨w.heap.size, 2, none⟩ = some (.int .i64 k.srv) := cell_of_row _ _ 2 _ _ _ hx
  have a3 : w1.cell? ⟨w.heap.size, 3, none⟩ = some (.int .i64 k.size) := cell_of_row _ _ 3 _ _ _ hx
  have a4 : w1.cell? ⟨w.heap.size, 4, none⟩ = some (.int .i64 k.red) := cell_of_row _ _ 4 _ _ _ hx
  have a5 : w1.cell? ⟨w.heap.size, 5, none⟩ = some (.int .i64 k.mtu) := cell_of_row _ _ 5 _ _ _ hx
  have a6 : w1.cell? ⟨w.heap.size, 6, none⟩ = some (.int .i64 k.every) := cell_of_row _ _ 6 _ _ _ hx
  have a7 : w1.cell? ⟨w.heap.size, 7, none⟩ = some (.int .i64 b) := cell_of_row _ _ 7 _ _ _ hx
  clear hx
  go_wp2_with fail
  refine (HC1.out w1 HW1.out).mono ?_
  rintro e w2 ⟨v2, rfl, ho, hb⟩
  have HW2 : Hid (Below w.heap.size w w2) := HW1.out.trans (hb.mono HW1.out.size)
  have HY2 : Hid (Below w1.heap.size w1 w2) := HY1.out.trans (hb.mono HY1.out.size)
  have s2 : w1.heap.size ≤ w2.heap.size := hb.size
  have p2 : Hid (∀ g, v2.ownBlock = some g → g < w2.heap.size) := fun g hg => (World.ownsRow.lt ho g hg).2
  have O2 : Hid (POwn w2 w1.heap.size v2 l) := ho
  clear ho hb HW1 HY1 a0 a1 a2 a3 a4 a5 a6 a7
  have hx := (HX.out w2 HY2.out).2
  have a0 : w2.cell? ⟨w.heap.size + 1, 0, none⟩ = some (.int .i64 k'.org) := cell_of_row _ _ 0 _ _ _ hx
  have a1 : w2.cell? ⟨w.heap.size + 1, 1, none⟩ = some (.int .i64 k'.num) := cell_of_row _ _ 1 _ _ _ hx
  have a2 : w2.cell? ⟨w.heap.size + 1, 2, none⟩ = some (.int .i64 k'.srv) := cell_of_row _ _ 2 _ _ _ hx
  have a3 : w2.cell? ⟨w.heap.size + 1, 3, none⟩ = some (.int .i64 k'.size) := cell_of_row _ _ 3 _ _ _ hx
  have a4 : w2.cell? ⟨w.heap.size + 1, 4, none⟩ = some (.int .i64 k'.red) := cell_of_row _ _ 4 _ _ _ hx
  have a5 : w2.cell? ⟨w.heap.size + 1, 5, none⟩ = some (.int .i64 k'.mtu) := cell_of_row _ _ 5 _ _ _ hx
  have a6 : w2.cell? ⟨w.heap.size + 1, 6, none⟩ = some (.int .i64 k'.every) := cell_of_row _ _ 6 _ _ _ hx
  have a7 : w2.cell? ⟨w.heap.size + 1, 7, none⟩ = some (.int .i64 b') := cell_of_row _ _ 7 _ _ _ hx
  clear hx
  go_wp2_with fail
  refine (HC2.out w2 HW2.out).mono ?_
  rintro e w3 ⟨v3, rfl, ho, hb⟩
  have HW3 : Hid (Below w.heap.size w w3) := HW2.out.trans (hb.mono HW2.out.size)
  have HY3 : Hid (Below w1.heap.size w1 w3) := HY2.out.trans (hb.mono HY2.out.size)
  have s3 : w2.heap.size ≤ w3.heap.size := hb.size
  replace O2 : Hid (POwn w3 w1.heap.size v2 l) := O2.out.below hb
  have p3 : Hid (∀ g, v3.ownBlock = some g → g < w3.heap.size) := fun g hg => (World.ownsRow.lt ho g hg).2
  have O3 : Hid (POwn w3 w2.heap.size v3 l') := ho
  clear ho hb HW2 HY2 a0 a1 a2 a3 a4 a5 a6 a7
  have hx := (HX.out w3 HY3.out).1
  have a0 : w3.cell? ⟨w.heap.size, 0, none⟩ = some (.int .i64 k.org) := cell_of_row _ _ 0 _ _ _ hx
  have a1 : w3.cell? ⟨w.heap.size, 1, none⟩ = some (.int .i64 k.num) := cell_of_row _ _ 1 _ _ _ hx
  have a2 : w3.cell? ⟨w.heap.size, 2, none⟩ = some (.int .i64 k.srv) := cell_of_row _ _ 2 _ _ _ hx
  have a3 : w3.cell? ⟨w.heap.size, 3, none⟩ = some (.int .i64 k.size) := cell_of_row _ _ 3 _ _ _ hx
  have a4 : w3.cell? ⟨w.heap.size, 4, none⟩ = some (.int .i64 k.red) := cell_of_row _ _ 4 _ _ _ hx
  have a5 : w3.cell? ⟨w.heap.size, 5, none⟩ = some (.int .i64 k.mtu) := cell_of_row _ _ 5 _ _ _ hx
  have a6 : w3.cell? ⟨w.heap.size, 6, none⟩ = some (.int .i64 k.every) := cell_of_row _ _ 6 _ _ _ hx
  have a7 : w3.cell? ⟨w.heap.size, 7, none⟩ = some (.int .i64 b) := cell_of_row _ _ 7 _ _ _ hx
  clear hx
  go_wp2_with fail
  refine (HC1.out w3 HW3.out).mono ?_
  rintro e w4 ⟨v4, rfl, ho, hb⟩
  have HW4 : Hid (Below w.heap.size w w4) := HW3.out.trans (hb.mono HW3.out.size)
  have HY4 : Hid (Below w1.heap.size w1 w4) := HY3.out.trans (hb.mono HY3.out.size)
  have s4 : w3.heap.size ≤ w4.heap.size := hb.size
  replace O2 : Hid (POwn w4 w1.heap.size v2 l) := O2.out.below hb
  replace O3 : Hid (POwn w4 w2.heap.size v3 l') := O3.out.below hb
  have p4 : Hid (∀ g, v4.ownBlock = some g → g < w4.heap.size) := fun g hg => (World.ownsRow.lt ho g hg).2
  have O4 : Hid (POwn w4 w3.heap.size v4 l) := ho
  clear ho hb HW3 HY3 a0 a1 a2 a3 a4 a5 a6 a7
  have hx := (HX.out w4 HY4.out).1
  have a0 : w4.cell? ⟨w.heap.size, 0, none⟩ = some (.int .i64 k.org) := cell_of_row _ _ 0 _ _ _ hx
  have a1 : w4.cell? ⟨w.heap.size, 1, none⟩ = some (.int .i64 k.num) := cell_of_row _ _ 1 _ _ _ hx
  have a2 : w4.cell? ⟨w.heap.size, 2, none⟩ = some (.int .i64 k.srv) := cell_of_row _ _ 2 _ _ _ hx
  have a3 : w4.cell? ⟨w.heap.size, 3, none⟩ = some (.int .i64 k.size) := cell_of_row _ _ 3 _ _ _ hx
  have a4 : w4.cell? ⟨w.heap.size, 4, none⟩ = some (.int .i64 k.red) := cell_of_row _ _ 4 _ _ _ hx
  have a5 : w4.cell? ⟨w.heap.size, 5, none⟩ = some (.int .i64 k.mtu) := cell_of_row _ _ 5 _ _ _ hx
  have a6 : w4.cell? ⟨w.heap.size, 6, none⟩ = some (.int .i64 k.every) := cell_of_row _ _ 6 _ _ _ hx
  have a7 : w4.cell? ⟨w.heap.size, 7, none⟩ = some (.int .i64 b) := cell_of_row _ _ 7 _ _ _ hx
  clear hx
  go_wp2_with fail
  refine (HD1.out w4).mono ?_
  rintro e w5 ⟨v5, rfl, ho, hb⟩
  have HW5 : Hid (Below w.heap.size w w5) := HW4.out.trans (hb.mono HW4.out.size)
  have HY5 : Hid (Below w1.heap.size w1 w5) := HY4.out.trans (hb.mono HY4.out.size)
  have s5 : w4.heap.size ≤ w5.heap.size := hb.size
  replace O2 : Hid (POwn w5 w1.heap.size v2 l) := O2.out.below hb
  replace O3 : Hid (POwn w5 w2.heap.size v3 l') := O3.out.below hb
  replace O4 : Hid (POwn w5 w3.heap.size v4 l) := O4.out.below hb
  have O5 : Hid (POwn w5 w4.heap.size v5 l) := ho
  clear ho hb HW4 HY4 a0 a1 a2 a3 a4 a5 a6 a7
  have hx := (HX.out w5 HY5.out).2
  have a0 : w5.cell? ⟨w.heap.size + 1, 0, none⟩ = some (.int .i64 k'.org) := cell_of_row _ _ 0 _ _ _ hx
  have a1 : w5.cell? ⟨w.heap.size + 1, 1, none⟩ = some (.int .i64 k'.num) := cell_of_row _ _ 1 _ _ _ hx
  have a2 : w5.cell? ⟨w.heap.size + 1, 2, none⟩ = some (.int .i64 k'.srv) := cell_of_row _ _ 2 _ _ _ hx
  have a3 : w5.cell? ⟨w.heap.size + 1, 3, none⟩ = some (.int .i64 k'.size) := cell_of_row _ _ 3 _ _ _ hx
  have a4 : w5.cell? ⟨w.heap.size + 1, 4, none⟩ = some (.int .i64 k'.red) := cell_of_row _ _ 4 _ _ _ hx
  have a5 : w5.cell? ⟨w.heap.size + 1, 5, none⟩ = some (.int .i64 k'.mtu) := cell_of_row _ _ 5 _ _ _ hx
  have a6 : w5.cell? ⟨w.heap.size + 1, 6, none⟩ = some (.int .i64 k'.every) := cell_of_row _ _ 6 _ _ _ hx
  have a7 : w5.cell? ⟨w.heap.size + 1, 7, none⟩ = some (.int .i64 b') := cell_of_row _ _ 7 _ _ _ hx
  clear hx
  go_wp2_with fail
  refine (HD2.out w5).mono ?_
  rintro e w6 ⟨v6, rfl, ho, hb⟩
  have HW6 : Hid (Below w.heap.size w w6) := HW5.out.trans (hb.mono HW5.out.size)
  have HY6 : Hid (Below w1.heap.size w1 w6) := HY5.out.trans (hb.mono HY5.out.size)
  have s6 : w5.heap.size ≤ w6.heap.size := hb.size
  replace O2 : Hid (POwn w6 w1.heap.size v2 l) := O2.out.below hb
  replace O3 : Hid (POwn w6 w2.heap.size v3 l') := O3.out.below hb
  replace O4 : Hid (POwn w6 w3.heap.size v4 l) := O4.out.below hb
  replace O5 : Hid (POwn w6 w4.heap.size v5 l) := O5.out.below hb
  have O6 : Hid (POwn w6 w5.heap.size v6 l') := ho
  clear ho hb HW5 HY5 a0 a1 a2 a3 a4 a5 a6 a7
  have hs := samepc_eq O2.out O5.out (by omega)
  go_wp2_with fail
  refine hs.mono ?_
  rintro e w7 ⟨rfl, hb⟩
  have HW7 : Hid (Below w.heap.size w w7) := HW6.out.trans (hb.mono HW6.out.size)
  have HY7 : Hid (Below w1.heap.size w1 w7) := HY6.out.trans (hb.mono HY6.out.size)
  have s7 : w6.heap.size ≤ w7.heap.size := hb.size
  replace O2 : Hid (POwn w7 w1.heap.size v2 l) := O2.out.below hb
  replace O3 : Hid (POwn w7 w2.heap.size v3 l') := O3.out.below hb
  replace O4 : Hid (POwn w7 w3.heap.size v4 l) := O4.out.below hb
  replace O5 : Hid (POwn w7 w4.heap.size v5 l) := O5.out.below hb
  replace O6 : Hid (POwn w7 w5.heap.size v6 l') := O6.out.below hb
  clear hb hs HW6 HY6
  have hs := samepc_eq O3.out O6.out (by omega)
  go_wp2_with fail
  refine hs.mono ?_
  rintro e w8 ⟨rfl, hb⟩
  have HW8 : Hid (Below w.heap.size w w8) := HW7.out.trans (hb.mono HW7.out.size)
  have HY8 : Hid (Below w1.heap.size w1 w8) := HY7.out.trans (hb.mono HY7.out.size)
  have s8 : w7.heap.size ≤ w8.heap.size := hb.size
  replace O2 : Hid (POwn w8 w1.heap.size v2 l) := O2.out.below hb
  replace O3 : Hid (POwn w8 w2.heap.size v3 l') := O3.out.below hb
  replace O4 : Hid (POwn w8 w3.heap.size v4 l) := O4.out.below hb
  replace O5 : Hid (POwn w8 w4.heap.size v5 l) := O5.out.below hb
  replace O6 : Hid (POwn w8 w5.heap.size v6 l') := O6.out.below hb
  clear hb hs HW7 HY7
  have hs := samepc_eq O4.out O5.out (by omega)
  go_wp2_with fail
  refine hs.mono ?_
  rintro e w9 ⟨rfl, hb⟩
  have HW9 : Hid (Below w.heap.size w w9) := HW8.out.trans (hb.mono HW8.out.size)
  have HY9 : Hid (Below w1.heap.size w1 w9) := HY8.out.trans (hb.mono HY8.out.size)
  have s9 : w8.heap.size ≤ w9.heap.size := hb.size
  replace O2 : Hid (POwn w9 w1.heap.size v2 l) := O2.out.below hb
  replace O3 : Hid (POwn w9 w2.heap.size v3 l') := O3.out.below hb
  replace O4 : Hid (POwn w9 w3.heap.size v4 l) := O4.out.below hb
  replace O5 : Hid (POwn w9 w4.heap.size v5 l) := O5.out.below hb
  replace O6 : Hid (POwn w9 w5.heap.size v6 l') := O6.out.below hb
  clear hb hs HW8 HY8
  clear HC1 HC2 HD1 HD2 HX O5 O6
  obtain ⟨r2, hv2, hn2, hl2, hh2⟩ := rw_of O2.out
  obtain ⟨r3, hv3, hn3, hl3, hh3⟩ := rw_of O3.out
  obtain ⟨r4, hv4, hn4, hl4, hh4⟩ := rw_of O4.out
  have z2 : ∀ g, r2.blk = some g → w1.heap.size ≤ g ∧ g < w2.heap.size := fun g hg => ⟨(hl2 g hg).1, p2.out g (by rw [hv2]; simp [M.sv, M.adr, hg, Value.ownBlock])⟩
  have z3 : ∀ g, r3.blk = some g → w2.heap.size ≤ g ∧ g < w3.heap.size := fun g hg => ⟨(hl3 g hg).1, p3.out g (by rw [hv3]; simp [M.sv, M.adr, hg, Value.ownBlock])⟩
  have z4 : ∀ g, r4.blk = some g → w3.heap.size ≤ g ∧ g < w4.heap.size := fun g hg => ⟨(hl4 g hg).1, p4.out g (by rw [hv4]; simp [M.sv, M.adr, hg, Value.ownBlock])⟩
  have hG := given_three (W := w9) (B := w.heap.size) z2 z3 z4 (by omega) (by omega) (by omega) (by omega) (by omega) hh2 hh3 hh4
  have hM := M.mine_any _ 3 w9.heap.size 3 w.heap.size (three r2 r3 r4) hG (by decide) (by decide) (fun i hi => by
    match i, hi with
    | 0, _ => show r2.n ≤ 2097152; omega
    | 1, _ => show r3.n ≤ 2097152; omega
    | 2, _ => show r4.n ≤ 2097152; omega)
  unfold M.sv at hv2 hv3 hv4 hM
  subst hv2 hv3 hv4
  clear hG O2 O3 O4 hh2 hh3 hh4 z2 z3 z4 hl2 hl3 hl4 hn2 hn3 hn4 p2 p3 p4
  go_wp2_with fail
  refine hM.mono ?_
  rintro e w10 ⟨rfl, hb⟩
  have HW10 : Hid (Below w.heap.size w w10) := (HW9.out.alloc HW9.out.size _).trans hb
  clear hM hb
  go_wp2
  go_ret
  exact ⟨rfl, HW10.out⟩

end Go.Proofs.YtfghdhikjhbbgadDoor
