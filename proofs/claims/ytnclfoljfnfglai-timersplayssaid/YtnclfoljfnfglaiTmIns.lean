import Derived.Test.YtnclfoljfnfglaiTmCm2
namespace Go.Proofs.Ytnclfoljfnfglai
open Go.RowKit Go.Maps
set_option linter.unusedVariables false

abbrev cmpF (og : Nat) : Value := .func (.func 74) #[.slice (some ⟨og, 0, none⟩) 5 5] #[]

theorem ins1_any (v fv : Value) (w : World) : Calls Try.prog 90 #[v, .int .i64 0, .int .i64 1, fv] w fun e w' => e = .returned (.tuple #[]) ∧ w = w' := by
  go_enter Try.func90, Try.ntmps90
  go_wp2
  refine wp_loop_rounds 1 ?_
  rw [rounds_succ]
  go_wp2
  go_end0
  exact ⟨rfl, rfl⟩

/-- Two keys of a row, exchanged. -/
def swpW (w1 : World) (g : Nat) (x0 x1 x2 x3 x4 y0 y1 y2 y3 y4 : Int) : World := ((((((((((w1.setCell ⟨g, 5, none⟩ (.int .i64 x0)).setCell ⟨g, 6, none⟩ (.int .i64 x1)).setCell ⟨g, 7, none⟩ (.int .i64 x2)).setCell ⟨g, 8, none⟩ (.int .i64 x3)).setCell ⟨g, 9, none⟩ (.int .i64 x4)).setCell ⟨g, 0, none⟩ (.int .i64 y0)).setCell ⟨g, 1, none⟩ (.int .i64 y1)).setCell ⟨g, 2, none⟩ (.int .i64 y2)).setCell ⟨g, 3, none⟩ (.int .i64 y3)).setCell ⟨g, 4, none⟩ (.int .i64 y4)).drew
theorem swp_row {w1 : World} {g base cap : Nat} {x0 x1 x2 x3 x4 y0 y1 y2 y3 y4 : Int} {cur : Array Value} (hg : w1.heap[g]? = some (.cells cur 51 (0, 0))) (hs : cur.size = cap * 5 ∧ 2 ≤ cap ∧ cap ≤ maxLen ∧ base ≤ g)
    (ht : cur.toList.take 10 = [.int .i64 x0, .int .i64 x1, .int .i64 x2, .int .i64 x3, .int .i64 x4, .int .i64 y0, .int .i64 y1, .int .i64 y2, .int .i64 y3, .int .i64 y4]) :
    KR (swpW w1 g x0 x1 x2 x3 x4 y0 y1 y2 y3 y4) base (.slice (some ⟨g, 0, none⟩) 2 cap) [(y0, y1, y2, y3, y4), (x0, x1, x2, x3, x4)] ∧ Kq (· = g) w1 (swpW w1 g x0 x1 x2 x3 x4 y0 y1 y2 y3 y4) := by
  obtain ⟨rest, hrest⟩ : ∃ r, cur.toList = [.int .i64 x0, .int .i64 x1, .int .i64 x2, .int .i64 x3, .int .i64 x4, .int .i64 y0, .int .i64 y1, .int .i64 y2, .int .i64 y3, .int .i64 y4] ++ r := ⟨cur.toList.drop 10, by rw [← ht, List.take_append_drop]⟩
  obtain rfl : cur = (([.int .i64 x0, .int .i64 x1, .int .i64 x2, .int .i64 x3, .int .i64 x4, .int .i64 y0, .int .i64 y1, .int .i64 y2, .int .i64 y3, .int .i64 y4] : List Value) ++ rest).toArray := by rw [← hrest]
  obtain ⟨h1, h2, h3, h4⟩ := hs
  have e := heap_setCell_same _ g 4 _ _ (.int .i64 y4) (heap_setCell_same _ g 3 _ _ (.int .i64 y3) (heap_setCell_same _ g 2 _ _ (.int .i64 y2) (heap_setCell_same _ g 1 _ _ (.int .i64 y1) (heap_setCell_same _ g 0 _ _ (.int .i64 y0) (heap_setCell_same _ g 9 _ _ (.int .i64 x4) (heap_setCell_same _ g 8 _ _ (.int .i64 x3) (heap_setCell_same _ g 7 _ _ (.int .i64 x2) (heap_setCell_same _ g 6 _ _ (.int .i64 x1) (heap_setCell_same _ g 5 _ _ (.int .i64 x0) hg)))))))))
  have hdr : ∀ X : World, X.drew.heap = X.heap := fun _ => rfl
  have e' : (swpW w1 g x0 x1 x2 x3 x4 y0 y1 y2 y3 y4).heap[g]? = some (.cells (([.int .i64 y0, .int .i64 y1, .int .i64 y2, .int .i64 y3, .int .i64 y4, .int .i64 x0, .int .i64 x1, .int .i64 x2, .int .i64 x3, .int .i64 x4] : List Value) ++ rest).toArray 51 (0, 0)) := by unfold swpW; rw [hdr]; refine e.trans ?_; simp
  have hk : ∀ k, k ≠ g → (swpW w1 g x0 x1 x2 x3 x4 y0 y1 y2 y3 y4).heap[k]? = w1.heap[k]? := fun k hk => by
    unfold swpW
    rw [hdr, heap_setCell_other _ _ _ _ (by exact hk), heap_setCell_other _ _ _ _ (by exact hk), heap_setCell_other _ _ _ _ (by exact hk), heap_setCell_other _ _ _ _ (by exact hk), heap_setCell_other _ _ _ _ (by exact hk), heap_setCell_other _ _ _ _ (by exact hk), heap_setCell_other _ _ _ _ (by exact hk), heap_setCell_other _ _ _ _ (by exact hk), heap_setCell_other _ _ _ _ (by exact hk), heap_setCell_other _ _ _ _ (by exact hk)]
  have hz : (swpW w1 g x0 x1 x2 x3 x4 y0 y1 y2 y3 y4).heap.size = w1.heap.size := by simp [swpW]
  have ho : (swpW w1 g x0 x1 x2 x3 x4 y0 y1 y2 y3 y4).os = w1.os ∧ (swpW w1 g x0 x1 x2 x3 x4 y0 y1 y2 y3 y4).tape = w1.tape ∧ (swpW w1 g x0 x1 x2 x3 x4 y0 y1 y2 y3 y4).output = w1.output := by
    have a1 : ∀ (X : World) a v, (X.setCell a v).os = X.os := fun _ _ _ => rfl
    have a2 : ∀ (X : World) a v, (X.setCell a v).tape = X.tape := fun _ _ _ => rfl
    have a3 : ∀ (X : World) a v, (X.setCell a v).output = X.output := fun _ _ _ => rfl
    have b1 : ∀ X : World, X.drew.os = X.os := fun _ => rfl
    have b2 : ∀ X : World, X.drew.tape = X.tape := fun _ => rfl
    have b3 : ∀ X : World, X.drew.output = X.output := fun _ => rfl
    unfold swpW
    rw [b1, b2, b3]
    simp only [a1, a2, a3]
    exact ⟨trivial, trivial, trivial⟩
  clear e
  generalize swpW w1 g x0 x1 x2 x3 x4 y0 y1 y2 y3 y4 = W at *
  refine ⟨⟨rfl, .inr ⟨g, cap, _, rfl, h4, e', h2, h3, by simpa using h1, by simp [kV]⟩⟩, ⟨ho.1, ho.2.1, ho.2.2, by omega, fun k _ h => hk k h⟩⟩

set_option maxHeartbeats 4000000 in
set_option maxRecDepth 100000 in
theorem ins2_any (g og cap base : Nat) (x y : Kx) (w : World) (h : KR w base (.slice (some ⟨g, 0, none⟩) 2 cap) [x, y]) (ho : w.heap[og]? = some ordO) :
    Calls Try.prog 90 #[.slice (some ⟨g, 0, none⟩) 2 cap, .int .i64 0, .int .i64 2, cmpF og] w fun e w' => e = .returned (.tuple #[]) ∧ KR w' base (.slice (some ⟨g, 0, none⟩) 2 cap) (if cmpK y x < 0 then [y, x] else [x, y]) ∧ Kq (· = g) w w' := by
  have hc := compare_any y x og w.drew ho
  obtain ⟨c, hcc⟩ : ∃ c, cmpK y x = c := ⟨_, rfl⟩
  rw [hcc] at hc ⊢
  clear hcc
  obtain ⟨lr, hlr⟩ : ∃ l, (if c < 0 then [y, x] else [x, y]) = l := ⟨_, rfl⟩
  rw [hlr]
  have HR : Hid (KR w base (.slice (some ⟨g, 0, none⟩) 2 cap) [x, y]) := h
  obtain ⟨x0, x1, x2, x3, x4⟩ := x
  obtain ⟨y0, y1, y2, y3, y4⟩ := y
  obtain ⟨p0, p1, p2, p3, p4⟩ := h.cells (i := 0) rfl
  obtain ⟨q0, q1, q2, q3, q4⟩ := h.cells (i := 1) rfl
  simp only [Nat.zero_mul, Nat.zero_add, Nat.one_mul, Nat.reduceAdd] at p0 p1 p2 p3 p4 q0 q1 q2 q3 q4
  have HL : Hid ((if c < 0 then [(y0, y1, y2, y3, y4), (x0, x1, x2, x3, x4)] else [(x0, x1, x2, x3, x4), (y0, y1, y2, y3, y4)]) = lr) := hlr
  clear hlr
  have hw0 : IntKind.i64.wrap 0 = 0 := by decide
  have hgl : g < w.heap.size := World.block_lt_of_cell? w ⟨g, 0, none⟩ p0
  clear h ho
  go_enter Try.func90, Try.ntmps90
  go_wp2
  refine wp_loop_rounds 2 ?_
  rw [rounds_succ]
  go_wp2
  refine wp_loop_rounds 2 ?_
  rw [rounds_succ]
  go_wp2
  go_region_held3 (fun V => V.cell? ⟨g, 0, none⟩ = some (.int .i64 x0) ∧ V.cell? ⟨g, 1, none⟩ = some (.int .i64 x1) ∧ V.cell? ⟨g, 2, none⟩ = some (.int .i64 x2) ∧ V.cell? ⟨g, 3, none⟩ = some (.int .i64 x3) ∧ V.cell? ⟨g, 4, none⟩ = some (.int .i64 x4) ∧ V.cell? ⟨g, 5, none⟩ = some (.int .i64 y0) ∧ V.cell? ⟨g, 6, none⟩ = some (.int .i64 y1) ∧ V.cell? ⟨g, 7, none⟩ = some (.int .i64 y2) ∧ V.cell? ⟨g, 8, none⟩ = some (.int .i64 y3) ∧ V.cell? ⟨g, 9, none⟩ = some (.int .i64 y4))
    (first | (exact ⟨p0, p1, p2, p3, p4, q0, q1, q2, q3, q4⟩) | (exact HB1.out))
    (first | (go_at_call 74
              refine hc.mono ?_
              rintro e w1 ⟨rfl, hb⟩
              have HBe : Hid (Below w.heap.size w w1) := ⟨hb.os, hb.tape, hb.output, hb.size, hb.block⟩
              have HB1 : Hid (w1.cell? ⟨g, 0, none⟩ = some (.int .i64 x0) ∧ w1.cell? ⟨g, 1, none⟩ = some (.int .i64 x1) ∧ w1.cell? ⟨g, 2, none⟩ = some (.int .i64 x2) ∧ w1.cell? ⟨g, 3, none⟩ = some (.int .i64 x3) ∧ w1.cell? ⟨g, 4, none⟩ = some (.int .i64 x4) ∧ w1.cell? ⟨g, 5, none⟩ = some (.int .i64 y0) ∧ w1.cell? ⟨g, 6, none⟩ = some (.int .i64 y1) ∧ w1.cell? ⟨g, 7, none⟩ = some (.int .i64 y2) ∧ w1.cell? ⟨g, 8, none⟩ = some (.int .i64 y3) ∧ w1.cell? ⟨g, 9, none⟩ = some (.int .i64 y4)) := ⟨(World.cell?_of_block (hb.block g hgl)).trans p0, (World.cell?_of_block (hb.block g hgl)).trans p1, (World.cell?_of_block (hb.block g hgl)).trans p2, (World.cell?_of_block (hb.block g hgl)).trans p3, (World.cell?_of_block (hb.block g hgl)).trans p4, (World.cell?_of_block (hb.block g hgl)).trans q0, (World.cell?_of_block (hb.block g hgl)).trans q1, (World.cell?_of_block (hb.block g hgl)).trans q2, (World.cell?_of_block (hb.block g hgl)).trans q3, (World.cell?_of_block (hb.block g hgl)).trans q4⟩
              clear hb))
  have HK1 : Hid (Kq (fun _ => False) w w1) := Kq.of_below HBe.out
  have HR1 : Hid (KR w1 base (.slice (some ⟨g, 0, none⟩) 2 cap) [(x0, x1, x2, x3, x4), (y0, y1, y2, y3, y4)]) := HR.out.keep HK1.out (fun g _ h => h)
  clear p0 p1 p2 p3 p4 q0 q1 q2 q3 q4 HR HBe hc
  by_cases c0 : c < 0
  · obtain rfl := (if_pos c0).symm.trans HL.out
    obtain ⟨cur, HG1, hcs, htk⟩ : ∃ cur, Hid (w1.heap[g]? = some (.cells cur 51 (0, 0))) ∧ Hid (cur.size = cap * 5 ∧ 2 ≤ cap ∧ cap ≤ maxLen ∧ base ≤ g) ∧ Hid (cur.toList.take 10 = [.int .i64 x0, .int .i64 x1, .int .i64 x2, .int .i64 x3, .int .i64 x4, .int .i64 y0, .int .i64 y1, .int .i64 y2, .int .i64 y3, .int .i64 y4]) := by
      obtain ⟨_, ⟨e, _⟩ | ⟨g', cap', cur, e, hb, hg, hn, hm, hs, ht⟩⟩ := HR1.out
      · cases e
      · cases e
        exact ⟨cur, hg, ⟨hs, hn, hm, hb⟩, ht⟩
    have r0 : w1.cell? ⟨g, 0, none⟩ = some (.int .i64 x0) := HB1.out.1
    have r1 : w1.cell? ⟨g, 1, none⟩ = some (.int .i64 x1) := HB1.out.2.1
    have r2 : w1.cell? ⟨g, 2, none⟩ = some (.int .i64 x2) := HB1.out.2.2.1
    have r3 : w1.cell? ⟨g, 3, none⟩ = some (.int .i64 x3) := HB1.out.2.2.2.1
    have r4 : w1.cell? ⟨g, 4, none⟩ = some (.int .i64 x4) := HB1.out.2.2.2.2.1
    have r5 : w1.cell? ⟨g, 5, none⟩ = some (.int .i64 y0) := HB1.out.2.2.2.2.2.1
    have r6 : w1.cell? ⟨g, 6, none⟩ = some (.int .i64 y1) := HB1.out.2.2.2.2.2.2.1
    have r7 : w1.cell? ⟨g, 7, none⟩ = some (.int .i64 y2) := HB1.out.2.2.2.2.2.2.2.1
    have r8 : w1.cell? ⟨g, 8, none⟩ = some (.int .i64 y3) := HB1.out.2.2.2.2.2.2.2.2.1
    have r9 : w1.cell? ⟨g, 9, none⟩ = some (.int .i64 y4) := HB1.out.2.2.2.2.2.2.2.2.2
    have z0 : w1.frozen? ⟨g, 0, none⟩ = false := by simp [World.frozen?, HG1.out]
    have z1 : w1.frozen? ⟨g, 1, none⟩ = false := by simp [World.frozen?, HG1.out]
    have z2 : w1.frozen? ⟨g, 2, none⟩ = false := by simp [World.frozen?, HG1.out]
    have z3 : w1.frozen? ⟨g, 3, none⟩ = false := by simp [World.frozen?, HG1.out]
    have z4 : w1.frozen? ⟨g, 4, none⟩ = false := by simp [World.frozen?, HG1.out]
    have z5 : w1.frozen? ⟨g, 5, none⟩ = false := by simp [World.frozen?, HG1.out]
    have z6 : w1.frozen? ⟨g, 6, none⟩ = false := by simp [World.frozen?, HG1.out]
    have z7 : w1.frozen? ⟨g, 7, none⟩ = false := by simp [World.frozen?, HG1.out]
    have z8 : w1.frozen? ⟨g, 8, none⟩ = false := by simp [World.frozen?, HG1.out]
    have z9 : w1.frozen? ⟨g, 9, none⟩ = false := by simp [World.frozen?, HG1.out]
    go_wp2
    go_region
    have SW := swp_row HG1.out hcs.out htk.out
    obtain ⟨W2, hW2⟩ : ∃ W, swpW w1 g x0 x1 x2 x3 x4 y0 y1 y2 y3 y4 = W := ⟨_, rfl⟩
    rw [hW2] at SW
    unfold swpW at hW2
    rw [hW2]
    have HSW : Hid _ := SW
    clear hW2 SW r0 r1 r2 r3 r4 r5 r6 r7 r8 r9 z0 z1 z2 z3 z4 z5 z6 z7 z8 z9
    go_wp2
    rw [rounds_succ]
    go_wp2
    go_region
    all_goals (
      go_wp2
      rw [rounds_succ]
      go_wp2
      go_end0
      exact ⟨rfl, HSW.out.1.keep (S := fun _ => False) (Kq.refl _ _).drew (fun _ _ h => h), ((HK1.out.mono (fun g h => h.elim)).trans HSW.out.2).drew⟩)
  · obtain rfl := (if_neg c0).symm.trans HL.out
    go_wp2
    rw [rounds_succ]
    go_wp2
    go_end0
    exact ⟨rfl, HR1.out, HK1.out.mono (fun g h => h.elim)⟩

end Go.Proofs.Ytnclfoljfnfglai
