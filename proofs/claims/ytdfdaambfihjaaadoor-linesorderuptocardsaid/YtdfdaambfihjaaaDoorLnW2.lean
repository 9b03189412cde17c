import Derived.Test.YtdfdaambfihjaaaDoorLnW
import Derived.Test.YtdfdaambfihjaaaDoorLnCp
namespace Go.Proofs.YtdfdaambfihjaaaDoor.L
open Go.RowKit
set_option linter.unusedVariables false
set_option linter.unusedSimpArgs false

theorem answers_any (w : World) (p m : Nat) (lim K : Int) (o : Lo) (M : Nat) (h : Lw w p m lim K o M) (hM : M ≤ 68719476736) :
    Calls Tryd.prog 40 #[.pointer (some ⟨p, 0, none⟩), .int .i64 K] w fun e w' => e = .returned (.int .i64 ((Wt o 0).length : Nat)) ∧ Below w.heap.size w w' := by
  have c1 : w.cell? ⟨p, 1, none⟩ = some (.map (some m)) := (cell_of_row _ _ _ _ _ _ h.box).trans rfl
  have hm := h.mp
  rcases o with _ | ⟨x, q⟩
  · obtain ⟨c, hc⟩ := hm
    have hlk := look0 w m c K hc
    clear h hc
    go_enter Tryd.func40, Tryd.ntmps40
    go_wp2
    go_ret
    exact ⟨rfl, Below.refl _ _⟩
  · obtain ⟨⟨b, c, _, hc⟩, hl⟩ := hm
    have hlk := look1 w m c x b K hc
    have hco := lcount hl (i := 0) (by omega) hM
    clear h hc hl
    go_enter Tryd.func40, Tryd.ntmps40
    go_wp2_with fail
    refine hco.mono ?_
    rintro e U ⟨rfl, hU⟩
    clear hco
    go_wp2
    go_ret
    exact ⟨rfl, hU⟩

def q0 : Nat → Qd := fun _ => ⟨.slice none 0 0, 0, [], []⟩
theorem lineOf_any (w : World) (p m : Nat) (lim K : Int) (o : Lo) (M : Nat) (h : Lw w p m lim K o M) :
    Calls Tryd.prog 41 #[.pointer (some ⟨p, 0, none⟩), .int .i64 K] w fun e w' => ∃ x q, e = .returned (.pointer (some ⟨x, 0, none⟩)) ∧ Lw w' p m lim K (some (x, q)) M ∧ (∀ i, i < 3 → (q i).L = Wt o i) ∧ (∀ g, Fo m (some (x, q)) g → Fo m o g ∨ w.heap.size ≤ g) ∧ Kl (fun g => g = m) w w' := by
  have c1 : w.cell? ⟨p, 1, none⟩ = some (.map (some m)) := (cell_of_row _ _ _ _ _ _ h.box).trans rfl
  have HL : Hid (Lw w p m lim K o M) := h
  have hm := h.mp
  rcases o with _ | ⟨x, q⟩
  · obtain ⟨c, hc⟩ := hm
    have hlk := look0 w m c K hc
    obtain ⟨W, hW⟩ : ∃ W, w.alloc (.cells #[.slice none 0 0, .int .i64 0, .slice none 0 0, .int .i64 0, .slice none 0 0, .int .i64 0] 72) = W := ⟨_, rfl⟩
    have HW : Hid (w.alloc (.cells #[.slice none 0 0, .int .i64 0, .slice none 0 0, .int .i64 0, .slice none 0 0, .int .i64 0] 72) = W) := hW
    have hml := (Array.getElem?_eq_some_iff.1 hc).1
    have hpl := (Array.getElem?_eq_some_iff.1 h.box).1
    have bW : Below w.heap.size w W := by rw [← hW]; exact (Below.refl _ _).alloc (Nat.le_refl _) _
    have hcW : W.heap[m]? = some (.map #[] c) := (bW.block m hml).trans hc
    have hu := upd0 W m c K (.pointer (some ⟨w.heap.size, 0, none⟩)) hcW
    have c1W := cell_below c1 bW
    have HR : Hid (Lw (setO W m (.map #[⟨.int .i64 K, .pointer (some ⟨w.heap.size, 0, none⟩), c⟩] (c + 1))) p m lim K (some (w.heap.size, q0)) M ∧ Kl (fun g => g = m) w (setO W m (.map #[⟨.int .i64 K, .pointer (some ⟨w.heap.size, 0, none⟩), c⟩] (c + 1)))) := by
      have hmW : m < W.heap.size := (Array.getElem?_eq_some_iff.1 hcW).1
      refine ⟨⟨?_, fun g hg => ?_, ⟨c, c + 1, by omega, setO_same hmW⟩, ?_, fun i hi => ?_, fun i j g hi hj hij hg => (by cases hg)⟩, (Kl.of_below bW).grown (setO_grown _ _ _) (fun k hk => .inl (by simpa using hk.symm))⟩
      · rw [setO_other (fun e => h.nx m (.inl rfl) e.symm)]
        exact (bW.block p hpl).trans h.box
      · rcases hg with rfl | rfl | ⟨i, hi, hg⟩
        · exact h.nx _ (.inl rfl)
        · omega
        · cases hg
      · rw [setO_other (by omega), ← hW]
        exact heap_alloc_new' _ _
      · exact ⟨rfl, World.ownsRow_nil _ _ _ _, fun y hy => (by cases hy), by simp [q0]⟩
    clear h hc hW hml hpl bW hcW
    go_enter Tryd.func41, Tryd.ntmps41
    go_upto_region 4 with fail
    rw [HW.out]
    go_wp2
    go_ret
    refine ⟨_, q0, rfl, HR.out.1, fun i hi => rfl, fun g hg => ?_, HR.out.2⟩
    rcases hg with rfl | rfl | ⟨i, hi, hg⟩
    · exact .inl (.inl rfl)
    · exact .inr (Nat.le_refl _)
    · cases hg
  · obtain ⟨⟨b, c, _, hc⟩, hl⟩ := hm
    have hlk := look1 w m c x b K hc
    clear h hc hl
    go_enter Tryd.func41, Tryd.ntmps41
    go_wp2
    go_ret
    exact ⟨_, q, rfl, HL.out, fun i hi => rfl, fun g hg => .inl hg, Kl.refl _ _⟩

theorem forget_any (w : World) (p m : Nat) (lim K : Int) (o : Lo) (M : Nat) (h : Lw w p m lim K o M) (hM : M ≤ 68719476736) :
    Calls Tryd.prog 28 #[.pointer (some ⟨p, 0, none⟩), .int .i64 K] w fun e w' => (∃ u, e = .returned u) ∧ ∃ o', Lw w' p m lim K o' M ∧ (∀ i, i < 3 → Wt o' i = Wt o i) ∧ (∀ g, Fo m o' g → Fo m o g) ∧ Kl (fun g => g = m) w w' ∧ (o' = none ∨ w'.heap[m]? = w.heap[m]?) := by
  have hco := lcount_any w p m lim K o M h hM
  have HL : Hid (Lw w p m lim K o M) := h
  by_cases hz : cnt o = 0
  · have HR : Hid (∀ U, Below w.heap.size w U → U.cell? ⟨p, 1, none⟩ = some (.map (some m)) ∧ ∃ V o', (∀ ty, (Builtin.delete_ #[61, 3] ty #[.map (some m), .int .i64 K]).run Tryd.prog U = .ok (.tuple #[]) V) ∧ Lw V p m lim K o' M ∧ (∀ i, i < 3 → Wt o' i = Wt o i) ∧ (∀ g, Fo m o' g → Fo m o g) ∧ Kl (fun g => g = m) w V ∧ (o' = none ∨ V.heap[m]? = w.heap[m]?)) := fun U hU => by
      have hLU := HL.out.below hU
      have hm := hLU.mp
      have hmU : m < U.heap.size := hLU.lt (.inl rfl)
      refine ⟨(cell_of_row _ _ _ _ _ _ hLU.box).trans rfl, ?_⟩
      have key : ∀ c, Lw (setO U m (.map #[] c)) p m lim K none M ∧ Kl (fun g => g = m) w (setO U m (.map #[] c)) := fun c => by
        refine ⟨⟨?_, fun g hg => ?_, c, setO_same hmU⟩, (Kl.of_below hU).grown (setO_grown _ _ _) (fun k hk => .inl (by simpa using hk.symm))⟩
        · rw [setO_other (fun e => hLU.nx m (.inl rfl) e.symm)]; exact hLU.box
        · rcases hg with rfl | hg
          · exact hLU.nx _ (.inl rfl)
          · exact hg.elim
      rcases o with _ | ⟨x, q⟩
      · obtain ⟨c, hc⟩ := hm
        exact ⟨_, none, fun ty => del0 U m c K ty hc, (key c).1, fun i hi => rfl, fun g hg => hg, (key c).2, .inl rfl⟩
      · obtain ⟨⟨b, c, _, hc⟩, hl⟩ := hm
        refine ⟨_, none, fun ty => del1 U m c x b K ty hc, (key c).1, fun i hi => ?_, fun g hg => ?_, (key c).2, .inl rfl⟩
        · have h1 : (Wt (some (x, q)) i).length = 0 := by
            unfold cnt at hz
            rcases three hi with rfl | rfl | rfl <;> omega
          exact (List.eq_nil_of_length_eq_zero h1).symm
        · rcases hg with rfl | hg
          · exact .inl rfl
          · exact hg.elim
    rw [hz] at hco
    clear h
    go_enter Tryd.func28, Tryd.ntmps28
    go_wp2_with fail
    refine hco.mono ?_
    rintro e U ⟨rfl, hU⟩
    obtain ⟨d1, V, o', hdel, r1, r2, r3, r4, r5⟩ := HR.out U hU
    have HF : Hid (Lw V p m lim K o' M ∧ (∀ i, i < 3 → Wt o' i = Wt o i) ∧ (∀ g, Fo m o' g → Fo m o g) ∧ Kl (fun g => g = m) w V ∧ (o' = none ∨ V.heap[m]? = w.heap[m]?)) := ⟨r1, r2, r3, r4, r5⟩
    clear hco hU r1 r2 r3 r4 r5
    go_wp2
    refine bodyPost_end (v := .tuple #[]) (by simp [results, Tryd.results28, go_sem]) rfl ?_
    exact ⟨⟨_, rfl⟩, _, HF.out⟩
  · have hz' : ¬ ((cnt o : Nat) : Int) = 0 := by omega
    have hz2 : (((cnt o : Nat) : Int) == 0) = false := by simpa using hz'
    clear h
    go_enter Tryd.func28, Tryd.ntmps28
    go_wp2_with fail
    refine hco.mono ?_
    rintro e U ⟨rfl, hU⟩
    clear hco
    go_wp2
    refine bodyPost_end (v := .tuple #[]) (by simp [results, Tryd.results28, go_sem]) rfl ?_
    exact ⟨⟨_, rfl⟩, o, HL.out.below hU, fun _ _ => rfl, fun _ h => h, Kl.of_below hU, .inr (hU.block m (HL.out.lt (.inl rfl)))⟩

end Go.Proofs.YtdfdaambfihjaaaDoor.L
