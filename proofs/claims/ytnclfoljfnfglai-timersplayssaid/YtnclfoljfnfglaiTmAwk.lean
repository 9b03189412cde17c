import Derived.Test.YtnclfoljfnfglaiTmTck
namespace Go.Proofs.Ytnclfoljfnfglai
open Go.RowKit Go.Maps
set_option linter.unusedVariables false

theorem sorts12 {l : List Kx} (hl : l.length = 1 ∨ l.length = 2) : SortsTo l (srt2 l) := by
  intro v og base W h ho
  obtain ⟨g, cap, rfl, _, _, _⟩ := h.some (by omega)
  exact (osort12_any g og cap base l W hl h ho).mono fun e w' ⟨h1, h2, h3⟩ => ⟨h1, h2, h3.mono (fun k hk => by rw [hk]; rfl)⟩

theorem key10_any (a b c : Int) (w : World) : Calls Try.prog 41 #[.int .i64 a, .int .i64 b, .int .i64 c] w fun e w' => e = .returned (kA (a, a, 1, b, c)) ∧ w' = w.alloc (kO (a, a, 1, b, c)) := by
  go_enter Try.func41, Try.ntmps41
  go_wp2
  refine bodyPost_ret (v := kA (a, a, 1, b, c)) (by simp [results, Try.results41, go_sem]) rfl ?_
  exact ⟨rfl, rfl⟩

def kxA : Kx := (1, 1, 1, 1, 5)
def kxB : Kx := (1, 1, 1, 3, 12)
def kxC : Kx := (2, 2, 1, 4, 0)
theorem nd_one {l : List Kx} {a : Kx} (h : l.Nodup) (hm : ∀ k, k ∈ l ↔ k = a) : l = [a] := by
  match l, h, hm with
  | [], _, hm => exact absurd ((hm a).mpr rfl) (by simp)
  | [x], _, hm => rw [(hm x).mp (by simp)]
  | x :: y :: r, h, hm =>
    have h1 := (hm x).mp (by simp)
    have h2 := (hm y).mp (by simp)
    subst h1; subst h2
    simp at h
theorem nd_two {l : List Kx} {a b : Kx} (h : l.Nodup) (hab : a ≠ b) (hm : ∀ k, k ∈ l ↔ (k = a ∨ k = b)) : l = [a, b] ∨ l = [b, a] := by
  match l, h, hm with
  | [], _, hm => exact absurd ((hm a).mpr (.inl rfl)) (by simp)
  | [x], _, hm =>
    have h1 := (hm a).mpr (.inl rfl)
    have h2 := (hm b).mpr (.inr rfl)
    simp at h1 h2
    exact absurd (h1.trans h2.symm) hab
  | [x, y], h, hm =>
    have hx := (hm x).mp (by simp)
    have hy := (hm y).mp (by simp)
    simp at h
    rcases hx with rfl | rfl <;> rcases hy with rfl | rfl
    · exact absurd rfl h
    · exact .inl rfl
    · exact .inr rfl
    · exact absurd rfl h
  | x :: y :: z :: r, h, hm =>
    have hx := (hm x).mp (by simp)
    have hy := (hm y).mp (by simp)
    have hz := (hm z).mp (by simp)
    simp at h
    rcases hx with rfl | rfl <;> rcases hy with rfl | rfl <;> rcases hz with rfl | rfl <;> simp_all
/-- The table of the document's examples. -/
def tbL : Tl := putT (putT (putT [] kxB 2) kxA 2) kxC 1
theorem tbL_eq : tbL = [(kxC, 1), (kxA, 2), (kxB, 2)] := by decide
theorem aw_out1 {ks : List Kx} (hn : ks.Nodup) (hm : ∀ k, k ∈ ks ↔ (k ∈ tbL.map Prod.fst ∧ k.1 ∉ ([] : List Int))) : outT tbL ks = [kxC] := by
  refine nd_one (List.Nodup.sublist List.filter_sublist hn) (fun k => ?_)
  simp only [outT, List.mem_filter, hm k, tbL_eq, decide_eq_true_eq]
  constructor
  · rintro ⟨_, h⟩
    simp at h
    exact h
  · rintro rfl; simp
theorem aw_left {ks : List Kx} {L : Tl} (hm : ∀ k, k ∈ ks ↔ (k ∈ tbL.map Prod.fst ∧ k.1 ∉ ([] : List Int))) (h : TK tbL ks L) (k : Kx) (c : Int) : (k, c) ∈ L ↔ ((k = kxA ∧ c = 1) ∨ (k = kxB ∧ c = 1)) := by
  rw [h.mem k c, hm k, tbL_eq]
  have n1 : kxA ≠ kxB := by decide
  have n2 : kxA ≠ kxC := by decide
  have n3 : kxB ≠ kxC := by decide
  constructor
  · rintro (⟨_, h1, h2⟩ | ⟨h1, h2⟩)
    · simp at h1
      rcases h1 with ⟨rfl, h3⟩ | ⟨rfl, h3⟩ | ⟨rfl, h3⟩
      · omega
      · exact .inl ⟨rfl, by omega⟩
      · exact .inr ⟨rfl, by omega⟩
    · exfalso
      apply h1
      simp at h2 ⊢
      rcases h2 with ⟨rfl, _⟩ | ⟨rfl, _⟩ | ⟨rfl, _⟩ <;> simp
  · rintro (⟨rfl, rfl⟩ | ⟨rfl, rfl⟩) <;> exact .inl (by simp)
theorem aw_out2 {ks ks' : List Kx} {L : Tl} (hm : ∀ k, k ∈ ks ↔ (k ∈ tbL.map Prod.fst ∧ k.1 ∉ ([] : List Int))) (h : TK tbL ks L) (hn : ks'.Nodup) (hm' : ∀ k, k ∈ ks' ↔ (k ∈ L.map Prod.fst ∧ k.1 ∉ ([] : List Int))) :
    (outT L ks').length = 2 ∧ srt2 (outT L ks') = [kxA, kxB] := by
  have e := nd_two (a := kxA) (b := kxB) (l := outT L ks') (List.Nodup.sublist List.filter_sublist hn) (by decide) (fun k => by
    simp only [outT, List.mem_filter, hm' k, decide_eq_true_eq, aw_left hm h k 1]
    constructor
    · rintro ⟨_, h1 | h1⟩
      · exact .inl h1.1
      · exact .inr h1.1
    · rintro (rfl | rfl)
      · exact ⟨⟨List.mem_map.mpr ⟨(kxA, 1), (aw_left hm h _ _).mpr (.inl ⟨rfl, rfl⟩), rfl⟩, by simp⟩, by simp⟩
      · exact ⟨⟨List.mem_map.mpr ⟨(kxB, 1), (aw_left hm h _ _).mpr (.inr ⟨rfl, rfl⟩), rfl⟩, by simp⟩, by simp⟩)
  rcases e with e | e <;> rw [e] <;> exact ⟨rfl, by decide⟩

theorem mayA : mayK kxA := by unfold mayK kxA; decide
theorem mayB : mayK kxB := by unfold mayK kxB; decide
theorem mayC : mayK kxC := by unfold mayK kxC; decide
theorem Kq.low {S : Nat → Prop} {w w1 w2 : World} {n : Nat} (hb : Below n w w1) (hn : n ≤ w.heap.size) (hk : Kq S w1 w2) (hs : ∀ g, S g → n ≤ g) : Below n w w2 :=
  hb.trans (hk.below (Nat.le_trans hn hb.size) hs)

set_option maxHeartbeats 4000000 in
set_option maxRecDepth 100000 in
theorem awake10_any (w : World) : Calls Try.prog 17 #[] w fun e w' => e = .returned (.bool true) ∧ Below w.heap.size w w' := by
  have HN := new10_any w
  go_enter Try.func17, Try.ntmps17
  go_wp2_with fail
  refine HN.mono ?_
  rintro e w1 ⟨rfl, hT, hB, hz⟩
  obtain ⟨p, hp⟩ : ∃ p, w.heap.size + 2 = p := ⟨_, rfl⟩
  obtain ⟨bl, hbl⟩ : ∃ p, w.heap.size = p := ⟨_, rfl⟩
  obtain ⟨bh, hbh⟩ : ∃ p, w.heap.size + 1 = p := ⟨_, rfl⟩
  rw [hp, hbh, hbl] at hT
  rw [hp]
  have HBl : Hid (w.heap.size = bl) := hbl
  have HB1 : Hid (Below w.heap.size w w1) := hB
  have HT1 : Hid (Tb w1 p bl bh [] []) := hT
  clear HN hT hB hz hp hbl hbh
  have HK1 := key10_any 1 3 12 w1
  have HS1 := start10_ok p bl bh [] [] kxB 2 _ (HT1.out.alloc (kO kxB)) mayB (by omega) (by simp)
  go_wp2_with fail
  refine HK1.mono ?_
  rintro e w2 ⟨rfl, rfl⟩
  go_wp2_with fail
  refine HS1.mono ?_
  rintro e w2 ⟨rfl, hT, hk⟩
  have HB2 : Hid (Below w.heap.size w w2) := Kq.low HB1.out (Nat.le_refl _) (((Kq.refl (· = bl) w1).alloc _).trans hk) (fun g e => by rw [show g = bl from e, HBl.out]; exact Nat.le_refl _)
  have HT2 : Hid (Tb w2 p bl bh (putT [] kxB 2) []) := hT
  clear HK1 HS1 hT hk HB1 HT1
  have HK1 := key10_any 1 1 5 w2
  have HS1 := start10_ok p bl bh _ [] kxA 2 _ (HT2.out.alloc (kO kxA)) mayA (by omega) (by decide)
  go_wp2_with fail
  refine HK1.mono ?_
  rintro e w3 ⟨rfl, rfl⟩
  go_wp2_with fail
  refine HS1.mono ?_
  rintro e w3 ⟨rfl, hT, hk⟩
  have HB3 : Hid (Below w.heap.size w w3) := Kq.low HB2.out (Nat.le_refl _) (((Kq.refl (· = bl) w2).alloc _).trans hk) (fun g e => by rw [show g = bl from e, HBl.out]; exact Nat.le_refl _)
  have HT3 : Hid (Tb w3 p bl bh (putT (putT [] kxB 2) kxA 2) []) := hT
  clear HK1 HS1 hT hk HB2 HT2
  have HK1 := key10_any 2 4 0 w3
  have HS1 := start10_ok p bl bh _ [] kxC 1 _ (HT3.out.alloc (kO kxC)) mayC (by omega) (by decide)
  go_wp2_with fail
  refine HK1.mono ?_
  rintro e w4 ⟨rfl, rfl⟩
  go_wp2_with fail
  refine HS1.mono ?_
  rintro e w4 ⟨rfl, hT, hk⟩
  have HB4 : Hid (Below w.heap.size w w4) := Kq.low HB3.out (Nat.le_refl _) (((Kq.refl (· = bl) w3).alloc _).trans hk) (fun g e => by rw [show g = bl from e, HBl.out]; exact Nat.le_refl _)
  have HT4 : Hid (Tb w4 p bl bh tbL []) := hT
  clear HK1 HS1 hT hk HB3 HT3
  have HK1 := tick_gen p bl bh tbL [] [kxC] w4 HT4.out (by rw [tbL_eq]; decide) (fun ks hn hm => by
    rw [aw_out1 hn hm]; exact sorts12 (l := [kxC]) (.inl rfl))
  go_wp2_with fail
  refine HK1.mono ?_
  rintro e w5 ⟨v1, ks, L1, rfl, hn1, hm1, htk, hl1, hr1, hT, hk⟩
  have HB5 : Hid (Below w.heap.size w w5) := Kq.low HB4.out (Nat.le_refl _) hk (fun g e => by rw [show g = bl from e, HBl.out]; exact Nat.le_refl _)
  have HT5 : Hid (Tb w5 p bl bh L1 []) := hT
  have HR5 : Hid (KR w5 w4.heap.size v1 [kxC]) := hr1
  have HL1 : Hid (L1.length < 2199023255552) := Nat.lt_of_le_of_lt hl1 (by rw [tbL_eq]; decide)
  have HBn : Hid (bl < w4.heap.size) := HT4.out.lts.2.1
  clear HK1 hT hk HB4 HT4 hr1 hl1
  have HK1 := tick_gen p bl bh L1 [] [kxA, kxB] w5 HT5.out HL1.out (fun ks' hn hm => by
    obtain ⟨e1, e2⟩ := aw_out2 hm1 htk hn hm
    rw [← e2]; exact sorts12 (.inr e1))
  clear hn1 hm1 htk
  go_wp2_with fail
  refine HK1.mono ?_
  rintro e w6 ⟨v2, ks2, L2, rfl, _, _, _, _, hr2, hT, hk⟩
  have HB6 : Hid (Below w.heap.size w w6) := Kq.low HB5.out (Nat.le_refl _) hk (fun g e => by rw [show g = bl from e, HBl.out]; exact Nat.le_refl _)
  have hr1 : KR w6 w4.heap.size v1 [kxC] := HR5.out.keep hk (fun g hg e => by have e' : g = bl := e; have := (World.ownsRow.lt HR5.out g hg).1; have := HBn.out; omega)
  obtain ⟨g1, cap1, rfl, _, _, _⟩ := hr1.some (by decide)
  obtain ⟨g2, cap2, rfl, _, _, _⟩ := hr2.some (by decide)
  obtain ⟨p0, p1, p2, p3, p4⟩ := hr1.cells (i := 0) rfl
  obtain ⟨q0, q1, q2, q3, q4⟩ := hr2.cells (i := 0) rfl
  obtain ⟨r0, r1, r2, r3, r4⟩ := hr2.cells (i := 1) rfl
  simp only [Nat.zero_mul, Nat.zero_add, Nat.one_mul, Nat.reduceAdd, kxA, kxB, kxC] at p0 p1 p2 p3 p4 q0 q1 q2 q3 q4 r0 r1 r2 r3 r4
  clear HK1 hT hk HT5 HB5 HR5 HL1 hr1 hr2
  simp only [List.length_cons, List.length_nil, Nat.reduceAdd]
  have l1 : g1 < w6.heap.size := World.block_lt_of_cell? _ ⟨g1, 0, none⟩ p0
  have l2 : g2 < w6.heap.size := World.block_lt_of_cell? _ ⟨g2, 0, none⟩ q0
  have HC : Hid (∀ V, Kq (fun _ => False) w6 V → (V.cell? ⟨g1, 0, none⟩ = some (.int .i64 2) ∧ V.cell? ⟨g1, 1, none⟩ = some (.int .i64 2) ∧ V.cell? ⟨g1, 2, none⟩ = some (.int .i64 1) ∧ V.cell? ⟨g1, 3, none⟩ = some (.int .i64 4) ∧ V.cell? ⟨g1, 4, none⟩ = some (.int .i64 0) ∧ V.cell? ⟨g2, 0, none⟩ = some (.int .i64 1) ∧ V.cell? ⟨g2, 1, none⟩ = some (.int .i64 1) ∧ V.cell? ⟨g2, 2, none⟩ = some (.int .i64 1) ∧ V.cell? ⟨g2, 3, none⟩ = some (.int .i64 1) ∧ V.cell? ⟨g2, 4, none⟩ = some (.int .i64 5) ∧ V.cell? ⟨g2, 5, none⟩ = some (.int .i64 1) ∧ V.cell? ⟨g2, 6, none⟩ = some (.int .i64 1) ∧ V.cell? ⟨g2, 7, none⟩ = some (.int .i64 1) ∧ V.cell? ⟨g2, 8, none⟩ = some (.int .i64 3) ∧ V.cell? ⟨g2, 9, none⟩ = some (.int .i64 12))) := fun V hk => ⟨(World.cell?_of_block (hk.block g1 l1 (fun h => h))).trans p0, (World.cell?_of_block (hk.block g1 l1 (fun h => h))).trans p1, (World.cell?_of_block (hk.block g1 l1 (fun h => h))).trans p2, (World.cell?_of_block (hk.block g1 l1 (fun h => h))).trans p3, (World.cell?_of_block (hk.block g1 l1 (fun h => h))).trans p4, (World.cell?_of_block (hk.block g2 l2 (fun h => h))).trans q0, (World.cell?_of_block (hk.block g2 l2 (fun h => h))).trans q1, (World.cell?_of_block (hk.block g2 l2 (fun h => h))).trans q2, (World.cell?_of_block (hk.block g2 l2 (fun h => h))).trans q3, (World.cell?_of_block (hk.block g2 l2 (fun h => h))).trans q4, (World.cell?_of_block (hk.block g2 l2 (fun h => h))).trans r0, (World.cell?_of_block (hk.block g2 l2 (fun h => h))).trans r1, (World.cell?_of_block (hk.block g2 l2 (fun h => h))).trans r2, (World.cell?_of_block (hk.block g2 l2 (fun h => h))).trans r3, (World.cell?_of_block (hk.block g2 l2 (fun h => h))).trans r4⟩
  go_wp2
  clear p0 p1 p2 p3 p4 q0 q1 q2 q3 q4 r0 r1 r2 r3 r4
  go_region_held3 (fun V => V.cell? ⟨g1, 0, none⟩ = some (.int .i64 2) ∧ V.cell? ⟨g1, 1, none⟩ = some (.int .i64 2) ∧ V.cell? ⟨g1, 2, none⟩ = some (.int .i64 1) ∧ V.cell? ⟨g1, 3, none⟩ = some (.int .i64 4) ∧ V.cell? ⟨g1, 4, none⟩ = some (.int .i64 0) ∧ V.cell? ⟨g2, 0, none⟩ = some (.int .i64 1) ∧ V.cell? ⟨g2, 1, none⟩ = some (.int .i64 1) ∧ V.cell? ⟨g2, 2, none⟩ = some (.int .i64 1) ∧ V.cell? ⟨g2, 3, none⟩ = some (.int .i64 1) ∧ V.cell? ⟨g2, 4, none⟩ = some (.int .i64 5) ∧ V.cell? ⟨g2, 5, none⟩ = some (.int .i64 1) ∧ V.cell? ⟨g2, 6, none⟩ = some (.int .i64 1) ∧ V.cell? ⟨g2, 7, none⟩ = some (.int .i64 1) ∧ V.cell? ⟨g2, 8, none⟩ = some (.int .i64 3) ∧ V.cell? ⟨g2, 9, none⟩ = some (.int .i64 12))
    (first | (exact HC.out _ (Kq.refl _ _).drew) | (exact HC.out _ ((Kq.refl _ _).alloc _).drew) | (exact HC.out _ (((Kq.refl _ _).alloc _).alloc _).drew) | (exact HC.out _ ((((Kq.refl _ _).alloc _).alloc _).alloc _).drew))
    (first
      | (go_at_call_of 41 (Value.int .i64 4); refine (key10_any 2 4 0 _).mono ?_; rintro e w7 ⟨rfl, rfl⟩)
      | (go_at_call_of 41 (Value.int .i64 5); refine (key10_any 1 1 5 _).mono ?_; rintro e w7 ⟨rfl, rfl⟩)
      | (go_at_call_of 41 (Value.int .i64 12); refine (key10_any 1 3 12 _).mono ?_; rintro e w7 ⟨rfl, rfl⟩))
  all_goals (
    go_wp2
    go_ret
    refine ⟨rfl, ?_⟩
    have h1 := ((HB6.out.alloc HB6.out.size (kO (2, 2, 1, 4, 0))).alloc (Nat.le_trans HB6.out.size (by simp)) (kO (1, 1, 1, 1, 5))).alloc (Nat.le_trans HB6.out.size (by simp; omega)) (kO (1, 1, 1, 3, 12))
    exact ⟨h1.os, h1.tape, h1.output, h1.size, h1.block⟩)

end Go.Proofs.Ytnclfoljfnfglai
