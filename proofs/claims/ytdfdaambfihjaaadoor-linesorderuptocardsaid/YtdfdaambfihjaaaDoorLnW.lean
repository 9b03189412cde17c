import Derived.Test.YtdfdaambfihjaaaDoorLnMp
namespace Go.Proofs.YtdfdaambfihjaaaDoor.L
open Go.RowKit
set_option linter.unusedVariables false
set_option linter.unusedSimpArgs false

/-! ## Lines for whom one peer at most waits -/
abbrev Lo := Option (Nat × (Nat → Qd))
def Wt (o : Lo) (i : Nat) : List Sv := match o with
  | none => []
  | some (_, q) => (q i).L
def Fo (m : Nat) (o : Lo) (g : Nat) : Prop := g = m ∨ match o with
  | none => False
  | some (x, q) => Fq x q g
structure Lw (w : World) (p m : Nat) (lim K : Int) (o : Lo) (M : Nat) : Prop where
  box : w.heap[p]? = some (.cells #[.int .i64 lim, .map (some m)] 63 (0, 0))
  nx : ∀ g, Fo m o g → g ≠ p
  mp : match o with
    | none => ∃ c, w.heap[m]? = some (.map #[] c)
    | some (x, q) => (∃ b c, b < c ∧ w.heap[m]? = some (.map #[⟨.int .i64 K, .pointer (some ⟨x, 0, none⟩), b⟩] c)) ∧ Ln w x q M
theorem Lw.lt {w : World} {p m : Nat} {lim K : Int} {o : Lo} {M : Nat} (h : Lw w p m lim K o M) {g : Nat} (hg : Fo m o g) : g < w.heap.size := by
  have hm := h.mp
  rcases o with _ | ⟨x, q⟩
  · rcases hg with rfl | hg
    · obtain ⟨c, hc⟩ := hm
      exact (Array.getElem?_eq_some_iff.1 hc).1
    · exact hg.elim
  · rcases hg with rfl | hg
    · obtain ⟨⟨b, c, _, hc⟩, _⟩ := hm
      exact (Array.getElem?_eq_some_iff.1 hc).1
    · exact hm.2.lt hg
theorem Lw.keep {S : Nat → Prop} {w w' : World} {p m : Nat} {lim K : Int} {o : Lo} {M : Nat} (h : Lw w p m lim K o M) (hk : Kl S w w') (hn : ∀ g, Fo m o g → ¬ S g) (hp : ¬ S p) : Lw w' p m lim K o M := by
  have hm := h.mp
  have hlt : m < w.heap.size := h.lt (.inl rfl)
  have e := hk.block m hlt (hn m (.inl rfl))
  refine ⟨(hk.block p (Array.getElem?_eq_some_iff.1 h.box).1 hp).trans h.box, h.nx, ?_⟩
  rcases o with _ | ⟨x, q⟩
  · obtain ⟨c, hc⟩ := hm
    exact ⟨c, e.trans hc⟩
  · obtain ⟨⟨b, c, hbc, hc⟩, hl⟩ := hm
    exact ⟨⟨b, c, hbc, e.trans hc⟩, hl.keep hk (fun g hg => hn g (.inr hg))⟩
theorem Lw.below {w w' : World} {p m : Nat} {lim K : Int} {o : Lo} {M : Nat} (h : Lw w p m lim K o M) (hk : Below w.heap.size w w') : Lw w' p m lim K o M := h.keep (S := fun _ => False) (Kl.of_below hk) (fun _ _ e => e) id

theorem new_any (lim K : Int) (w : World) : Calls Tryd.prog 6 #[.int .i64 lim] w fun e w' => e = .returned (.pointer (some ⟨w.heap.size + 1, 0, none⟩)) ∧ Lw w' (w.heap.size + 1) w.heap.size lim K none 0 ∧ Below w.heap.size w w' := by
  obtain ⟨W, hW⟩ : ∃ W, (w.alloc (.map #[] 0)).alloc (.cells #[.int .i64 lim, .map (some w.heap.size)] 63) = W := ⟨_, rfl⟩
  have HW : Hid ((w.alloc (.map #[] 0)).alloc (.cells #[.int .i64 lim, .map (some w.heap.size)] 63) = W) := hW
  have HR : Hid (Lw W (w.heap.size + 1) w.heap.size lim K none 0 ∧ Below w.heap.size w W) := by
    rw [← hW]
    refine ⟨⟨?_, fun g hg => ?_, 0, ?_⟩, ((Below.refl _ _).alloc (Nat.le_refl _) _).alloc (by simp) _⟩
    · have := heap_alloc_new' (w.alloc (.map #[] 0)) (.cells #[.int .i64 lim, .map (some w.heap.size)] 63)
      rw [World.size_alloc] at this
      exact this
    · rcases hg with rfl | hg
      · omega
      · exact hg.elim
    · rw [Below.heap_alloc _ _ _ (by simp)]; exact heap_alloc_new' _ _
  have hmk : (Instr.makeMap 61 none).run Tryd.prog w = .ok (.map (some w.heap.size)) (w.alloc (.map #[] 0)) := by first | exact run_makeMap _ _ | exact run_makeMap | simp [Instr.makeMap, newObj, World.alloc]
  clear hW
  go_enter Tryd.func6, Tryd.ntmps6
  go_wp2
  go_ret
  rw [HW.out]
  exact ⟨rfl, HR.out⟩

def cnt (o : Lo) : Nat := (Wt o 0).length + (Wt o 1).length + (Wt o 2).length
def cnk (o : Lo) (k : Nat) : Nat := if k = 0 then 0 else if k = 1 then (Wt o 0).length else if k = 2 then (Wt o 0).length + (Wt o 1).length else cnt o
set_option maxRecDepth 100000 in
set_option maxHeartbeats 4000000 in
theorem lcount_any (w : World) (p m : Nat) (lim K : Int) (o : Lo) (M : Nat) (h : Lw w p m lim K o M) (hM : M ≤ 68719476736) :
    Calls Tryd.prog 14 #[.pointer (some ⟨p, 0, none⟩), .int .i64 K] w fun e w' => e = .returned (.int .i64 (cnt o : Nat)) ∧ Below w.heap.size w w' := by
  have c1 : w.cell? ⟨p, 1, none⟩ = some (.map (some m)) := (cell_of_row _ _ _ _ _ _ h.box).trans rfl
  have HL : Hid (Lw w p m lim K o M) := h
  have hm := h.mp
  rcases o with _ | ⟨x, q⟩
  · obtain ⟨c, hc⟩ := hm
    have hlk := look0 w m c K hc
    clear h hc
    go_enter Tryd.func14, Tryd.ntmps14
    go_wp2
    go_ret
    exact ⟨rfl, Below.refl _ _⟩
  · obtain ⟨⟨b, c, _, hc⟩, hl⟩ := hm
    have hlk := look1 w m c x b K hc
    have HQ : Hid (Ln w x q M) := hl
    clear h hc hl
    go_enter Tryd.func14, Tryd.ntmps14
    go_wp2_with fail
    go_loopw [7, 20] (fun s7 s20 wr => ∃ k, k ≤ 3 ∧ s7 = .int .i64 (cnk (some (x, q)) k : Nat) ∧ s20 = .int .i64 (k : Nat) ∧ Below w.heap.size w wr) (fun _ s20 _ => 3 - (intOf s20).toNat)
    case atStart => exact ⟨0, by omega, rfl, rfl, Below.refl _ _⟩
    case round =>
      obtain ⟨k, hk, rfl, rfl, hb⟩ := hrel
      have HB : Hid (Below w.heap.size w wr) := hb
      by_cases hlt : k < 3
      · have hlt' : (k : Int) < 3 := by omega
        have h0k : 0 ≤ (k : Int) := by omega
        have hco := lcount (HQ.out.keep (S := fun _ => False) (Kl.of_below hb) (fun _ _ e => e)) hlt hM
        have hwk : IntKind.i64.wrap ((k : Int) + 1) = (k : Int) + 1 := by rw [IntKind.wrap_i64]; omega
        have hs : ∀ i, i < 3 → (q i).L.length ≤ 68719476736 := fun i hi => by have := (HQ.out.k i hi).small; omega
        have hsum : cnk (some (x, q)) (k + 1) = cnk (some (x, q)) k + (q k).L.length := by
          rcases three hlt with rfl | rfl | rfl <;> simp [cnk, cnt, Wt]
        have hc3 : cnk (some (x, q)) k + (q k).L.length ≤ 206158430208 := by
          have h1 := hs 0 (by omega)
          have h2 := hs 1 (by omega)
          have h3 := hs 2 (by omega)
          rcases three hlt with rfl | rfl | rfl <;> simp [cnk, Wt] <;> omega
        obtain ⟨A, hA⟩ : ∃ A, cnk (some (x, q)) k = A := ⟨_, rfl⟩
        obtain ⟨L, hL⟩ : ∃ L, (q k).L.length = L := ⟨_, rfl⟩
        rw [hA, hL] at hsum hc3
        rw [hA]
        rw [hL] at hco
        have hwa : IntKind.i64.wrap ((A : Int) + (L : Int)) = ((A + L : Nat) : Int) := by rw [IntKind.wrap_i64]; omega
        have HS : Hid (cnk (some (x, q)) (k + 1) = A + L) := hsum
        clear hsum hs hA hL hb
        go_wp2_with fail
        refine hco.mono ?_
        rintro e U ⟨rfl, hU⟩
        have HU : Hid (Below w.heap.size w U) := HB.out.trans (hU.mono HB.out.size)
        clear hco hU
        go_wp2
        go_roundw
        case rel => exact ⟨k + 1, by omega, by rw [HS.out]; go_num, by go_num, HU.out⟩
        case measure => simp [intOf]; omega
      · obtain rfl : k = 3 := by omega
        have e3 : cnk (some (x, q)) 3 = cnt (some (x, q)) := by simp [cnk]
        rw [e3]
        clear e3 hb
        go_wp2
        go_ret
        exact ⟨rfl, HB.out⟩

end Go.Proofs.YtdfdaambfihjaaaDoor.L
