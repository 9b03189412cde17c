import Derived.Test.YtdfdaambfihjaaaDoorLnTk
namespace Go.Proofs.YtdfdaambfihjaaaDoor.L
open Go.RowKit
set_option linter.unusedVariables false
set_option linter.unusedSimpArgs false

/-! ## The range over the map of one line at most -/
theorem nx1 (w : World) (r m since last born clock : Nat) (ky vl : Value) (ty : TypeId) (hr : w.heap[r]? = some (.mapIter (some m) since #[] last)) (hm : w.heap[m]? = some (.map #[⟨ky, vl, born⟩] clock)) (hb : born < since) :
    (Instr.next (.pointer (some ⟨r, 0, none⟩)) false ty).run Tryd.prog w = .ok (.tuple #[.bool true, ky, vl]) (setO w r (.mapIter (some m) since #[born] clock)) := by
  simp [Instr.next, getObj, setObj, choose, Sem.run, hr, hm, hb, Question.forced, setO, Nat.not_le.mpr hb]
theorem nx2 (w : World) (r m since last born clock : Nat) (ky vl : Value) (ty : TypeId) (hr : w.heap[r]? = some (.mapIter (some m) since #[born] last)) (hm : w.heap[m]? = some (.map #[⟨ky, vl, born⟩] clock)) (hb : born < last) :
    (Instr.next (.pointer (some ⟨r, 0, none⟩)) false ty).run Tryd.prog w = .ok (.tuple #[.bool false]) w := by
  simp [Instr.next, getObj, setObj, choose, Sem.run, hr, hm, hb, Question.forced, setO, Nat.not_le.mpr hb]
theorem nx0 (w : World) (r m since last clock : Nat) (seen : Array Nat) (ty : TypeId) (hr : w.heap[r]? = some (.mapIter (some m) since seen last)) (hm : w.heap[m]? = some (.map #[] clock)) :
    (Instr.next (.pointer (some ⟨r, 0, none⟩)) false ty).run Tryd.prog w = .ok (.tuple #[.bool false]) w := by
  simp [Instr.next, getObj, setObj, choose, Sem.run, hr, hm, Question.forced]
theorem en1 (w : World) (r m since born clock : Nat) (ky vl : Value) (hr : w.heap[r]? = some (.mapIter (some m) since #[born] clock)) (hm : w.heap[m]? = some (.map #[⟨ky, vl, born⟩] clock)) :
    (Instr.entry (.pointer (some ⟨r, 0, none⟩))).run Tryd.prog w = .ok (.tuple #[ky, vl]) w := by
  simp [Instr.entry, getObj, Sem.run, hr, hm]
theorem rg1 (w : World) (m clock : Nat) (es : Array MapEntry) (hm : w.heap[m]? = some (.map es clock)) :
    (Instr.range 61 (.map (some m))).run Tryd.prog w = .ok (.pointer (some ⟨w.heap.size, 0, none⟩)) (w.alloc (.mapIter (some m) clock #[] clock)) := by
  simp [Instr.range, run_underlying Tryd.underlying61, MapKept.run_getObj_map hm]

/-- What Drop leaves. -/
structure DpP (w w' : World) (p m : Nat) (lim K : Int) (o o' : Lo) (M : Nat) (S1 S2 : Int) (all : Bool) : Prop where
  lw : Lw w' p m lim K o' M
  w0 : Wt o' 0 = Wt o 0
  w1 : Wt o' 1 = kp S1 S2 all (Wt o 1)
  w2 : Wt o' 2 = kp S1 S2 all (Wt o 2)
  fo : ∀ g, Fo m o' g → Fo m o g ∨ w.heap.size ≤ g
  kl : Kl (Fo m o) w w'
def dpn (o : Lo) (S1 S2 : Int) (all : Bool) : Nat := ((Wt o 1).length - (kp S1 S2 all (Wt o 1)).length) + ((Wt o 2).length - (kp S1 S2 all (Wt o 2)).length)

set_option maxRecDepth 100000 in
set_option maxHeartbeats 8000000 in
theorem drop_any (w : World) (p m : Nat) (lim K : Int) (o : Lo) (M : Nat) (S1 S2 : Int) (all : Bool) (h : Lw w p m lim K o M) (hM : M ≤ 17179869184) :
    Calls Tryd.prog 12 #[.pointer (some ⟨p, 0, none⟩), .agg #[.int .i64 S1, .int .i64 S2], .bool all] w fun e w' => e = .returned (.int .i64 (dpn o S1 S2 all : Nat)) ∧ ∃ o', DpP w w' p m lim K o o' M S1 S2 all := by
  obtain ⟨B, hB⟩ : ∃ B, w.heap.size = B := ⟨_, rfl⟩
  obtain ⟨W, hW⟩ : ∃ W, (w.alloc (.cells #[.int .i64 S1, .int .i64 S2] 32)).alloc (.cells #[.bool all] 4) = W := ⟨_, rfl⟩
  have HW : Hid ((w.alloc (.cells #[.int .i64 S1, .int .i64 S2] 32)).alloc (.cells #[.bool all] 4) = W) := hW
  have bW : Below w.heap.size w W := by rw [← hW]; exact ((Below.refl _ _).alloc (Nat.le_refl _) _).alloc (by simp) _
  have hsz : W.heap.size = B + 2 := by rw [← hW, ← hB]; simp
  have hc0 : W.heap[B]? = some (.cells #[.int .i64 S1, .int .i64 S2] 32 (0, 0)) := by
    rw [← hW, ← hB, Below.heap_alloc _ _ _ (by simp)]; exact heap_alloc_new' _ _
  have hc1 : W.heap[B + 1]? = some (.cells #[.bool all] 4 (0, 0)) := by
    have := heap_alloc_new' (w.alloc (.cells #[.int .i64 S1, .int .i64 S2] 32)) (.cells #[.bool all] 4)
    rw [World.size_alloc, hB] at this
    rw [← hW]
    exact this
  have hLW := h.below bW
  have c1 : W.cell? ⟨p, 1, none⟩ = some (.map (some m)) := (cell_of_row _ _ _ _ _ _ hLW.box).trans rfl
  have HC : Hid (∀ V : World, (∀ g, B ≤ g → g < B + 2 → V.heap[g]? = W.heap[g]?) → V.cell? ⟨B, 0, none⟩ = some (.int .i64 S1) ∧ V.cell? ⟨B, 1, none⟩ = some (.int .i64 S2) ∧ V.cell? ⟨B + 1, 0, none⟩ = some (.bool all)) := fun V hV => by
    have e0 := (hV B (by omega) (by omega)).trans hc0
    have e1 := (hV (B + 1) (by omega) (by omega)).trans hc1
    exact ⟨(cell_of_row _ _ _ _ _ _ e0).trans rfl, (cell_of_row _ _ _ _ _ _ e0).trans rfl, (cell_of_row _ _ _ _ _ _ e1).trans rfl⟩
  have HL : Hid (Lw w p m lim K o M) := h
  have HLW : Hid (Lw W p m lim K o M ∧ Below w.heap.size w W ∧ W.heap.size = B + 2 ∧ w.heap.size = B) := ⟨hLW, bW, hsz, hB⟩
  have hmp := hLW.mp
  rcases o with _ | ⟨x, q⟩
  · obtain ⟨c, hc⟩ := hmp
    have hrg := rg1 W m c _ hc
    rw [hsz] at hrg
    obtain ⟨W0, hW0⟩ : ∃ W0, W.alloc (.mapIter (some m) c #[] c) = W0 := ⟨_, rfl⟩
    have b0 : Below W.heap.size W W0 := by rw [← hW0]; exact (Below.refl _ _).alloc (Nat.le_refl _) _
    have hit : W0.heap[B + 2]? = some (.mapIter (some m) c #[] c) := by rw [← hW0, ← hsz]; exact heap_alloc_new' _ _
    have hcm : W0.heap[m]? = some (.map #[] c) := (b0.block m (Array.getElem?_eq_some_iff.1 hc).1).trans hc
    have hnx := fun ty => nx0 W0 (B + 2) m c c c #[] ty hit hcm
    have HW0 : Hid (W.alloc (.mapIter (some m) c #[] c) = W0) := hW0
    have HF : Hid (DpP w W0 p m lim K none none M S1 S2 all) := ⟨hLW.below b0, rfl, rfl, rfl, fun g hg => .inl hg, (Kl.of_below bW).below b0⟩
    clear h hc hW bW hsz hc0 hc1 hLW hW0 b0 hit hcm
    go_enter Tryd.func12, Tryd.ntmps12
    go_upto_region 3 with fail
    rw [HW.out]
    go_wp2_with fail
    rw [HW0.out]
    go_loopw [8] (fun s8 wr => s8 = .int .i64 0 ∧ wr = W0) (fun _ _ => 0)
    case atStart => exact ⟨rfl, rfl⟩
    case round =>
      obtain ⟨rfl, rfl⟩ := hrel
      go_wp2
      go_ret
      exact ⟨rfl, none, HF.out⟩
  · obtain ⟨⟨b, c, hbc, hc⟩, hl⟩ := hmp
    have hrg := rg1 W m c _ hc
    rw [hsz] at hrg
    have hmB : m < B := by rw [← hB]; exact HL.out.lt (.inl rfl)
    have hpB : p < B := by rw [← hB]; exact (Array.getElem?_eq_some_iff.1 HL.out.box).1
    have hqB : ∀ g, Fq x q g → g < B := fun g hg => by rw [← hB]; exact HL.out.lt (.inr hg)
    obtain ⟨W0, hW0⟩ : ∃ W0, W.alloc (.mapIter (some m) c #[] c) = W0 := ⟨_, rfl⟩
    have b0 : Below W.heap.size W W0 := by rw [← hW0]; exact (Below.refl _ _).alloc (Nat.le_refl _) _
    have hs0 : W0.heap.size = B + 3 := by rw [← hW0]; simp [hsz]
    have hit : W0.heap[B + 2]? = some (.mapIter (some m) c #[] c) := by rw [← hW0, ← hsz]; exact heap_alloc_new' _ _
    have hcm : W0.heap[m]? = some (.map #[⟨.int .i64 K, .pointer (some ⟨x, 0, none⟩), b⟩] c) := (b0.block m (by omega)).trans hc
    have hnx := fun ty => nx1 W0 (B + 2) m c c b c _ _ ty hit hcm hbc
    obtain ⟨W1, hW1⟩ : ∃ W1, setO W0 (B + 2) (.mapIter (some m) c #[b] c) = W1 := ⟨_, rfl⟩
    have g1 : W0.grownBy W1 (some (B + 2)) := by rw [← hW1]; exact setO_grown _ _ _
    have hs1 : W1.heap.size = B + 3 := by rw [← hW1]; simp [setO, hs0]
    have k01 : Kl (fun g => g = B + 2) W W1 := (Kl.of_below b0).grown g1 (fun k hk => .inl (by simpa using hk.symm))
    have hit1 : W1.heap[B + 2]? = some (.mapIter (some m) c #[b] c) := by rw [← hW1]; exact setO_same (by omega)
    have hcm1 : W1.heap[m]? = some (.map #[⟨.int .i64 K, .pointer (some ⟨x, 0, none⟩), b⟩] c) := (k01.block m (by omega) (by omega)).trans hc
    have hen := en1 W1 (B + 2) m c b c _ _ hit1 hcm1
    have hL1 : Lw W1 p m lim K (some (x, q)) M := hLW.keep k01 (fun g hg e => by
      rcases hg with rfl | hg
      · omega
      · have := hqB g hg; omega) (by omega)
    rw [hW1] at hnx
    have HW0 : Hid (W.alloc (.mapIter (some m) c #[] c) = W0) := hW0
    have HD : Hid (∀ (U : World) (q' : Nat → Qd), Kl (Fq x q) W1 U → (∀ g, Fq x q' g → Fq x q g ∨ W1.heap.size ≤ g) → U.cell? ⟨B, 0, none⟩ = some (.int .i64 S1) ∧ U.cell? ⟨B, 1, none⟩ = some (.int .i64 S2) ∧ U.cell? ⟨B + 1, 0, none⟩ = some (.bool all) ∧ ¬ Fq x q' B ∧ ¬ Fq x q' (B + 1)) := fun U q' hk hf => by
      have hn : ∀ g, B ≤ g → g < B + 2 → ¬ Fq x q' g := fun g h1 h2 e => by
        rcases hf g e with e | e
        · have := hqB g e; omega
        · omega
      obtain ⟨e1, e2, e3⟩ := HC.out U (fun g h1 h2 => (hk.block g (by omega) (fun e => by have := hqB g e; omega)).trans (k01.block g (by omega) (by omega)))
      exact ⟨e1, e2, e3, hn B (by omega) (by omega), hn (B + 1) (by omega) (by omega)⟩
    have k1d : Kl (Fq x q) W1 W1.drew := ⟨rfl, rfl, rfl, Nat.le_refl _, fun _ _ _ => rfl⟩
    obtain ⟨t0, t1, t2, t3, t4⟩ := HD.out W1.drew q k1d (fun g hg => .inl hg)
    have hd1 := ldrop (w := W1.drew) (hL1.ln.keep (S := fun _ => False) ⟨rfl, rfl, rfl, Nat.le_refl _, fun _ _ _ => rfl⟩ (fun _ _ e => e)) (i := 1) (by omega) (by omega) S1 S2 all t0 t1 t2 t3 t4
    have hW1l := Wt_le HL.out 1 (by omega)
    have hW2l := Wt_le HL.out 2 (by omega)
    obtain ⟨n1, hn1⟩ : ∃ n1, (q 1).L.length - (kp S1 S2 all (q 1).L).length = n1 := ⟨_, rfl⟩
    obtain ⟨n2, hn2⟩ : ∃ n2, (q 2).L.length - (kp S1 S2 all (q 2).L).length = n2 := ⟨_, rfl⟩
    have hdp : dpn (some (x, q)) S1 S2 all = n1 + n2 := by rw [← hn1, ← hn2]; rfl
    have hn1b : n1 ≤ 17179869184 := by have : (q 1).L.length ≤ M := hW1l; omega
    have hn2b : n2 ≤ 17179869184 := by have : (q 2).L.length ≤ M := hW2l; omega
    rw [hdp]
    rw [hn1] at hd1
    have H1 : Hid (Lw W1 p m lim K (some (x, q)) M ∧ Below w.heap.size w W ∧ Kl (fun g => g = B + 2) W W1 ∧ W1.heap[B + 2]? = some (.mapIter (some m) c #[b] c) ∧ W1.heap[m]? = some (.map #[⟨.int .i64 K, .pointer (some ⟨x, 0, none⟩), b⟩] c) ∧ W1.heap.size = B + 3 ∧ (∀ g, Fq x q g → g < B) ∧ m < B ∧ p < B ∧ w.heap.size = B) := ⟨hL1, bW, k01, hit1, hcm1, hs1, hqB, hmB, hpB, hB⟩
    have Hn2 : Hid ((q 2).L.length - (kp S1 S2 all (q 2).L).length = n2) := hn2
    obtain ⟨N, hN⟩ : ∃ N, n1 + n2 = N := ⟨_, rfl⟩
    have hw1 : (n1 : Int) + (n2 : Int) = (N : Int) := by omega
    have hNb : N ≤ 34359738368 := by omega
    have hwN : IntKind.i64.wrap (N : Int) = (N : Int) := by rw [IntKind.wrap_i64]; omega
    rw [hN]
    clear hN
    have Hit : Hid (W0.heap[B + 2]? = some (.mapIter (some m) c #[] c)) := hit
    clear h hc hW bW hsz hc0 hc1 hLW hW0 b0 hit hcm hl hit1 hcm1 hL1 g1 hs0 hs1 k01 hW1 hqB k1d t0 t1 t2 t3 t4 hn1 hn2 hdp hW1l hW2l
    go_enter Tryd.func12, Tryd.ntmps12
    go_upto_region 3 with fail
    rw [HW.out]
    go_wp2_with fail
    rw [HW0.out]
    go_loopw [8] (fun s8 wr => (s8 = .int .i64 0 ∧ wr = W0) ∨ (s8 = .int .i64 (N : Int) ∧ Hid (wr.heap[B + 2]? = some (.mapIter (some m) c #[b] c) ∧ (∀ ty, (Instr.next (.pointer (some ⟨B + 2, 0, none⟩)) false ty).run Tryd.prog wr = .ok (.tuple #[.bool false]) wr) ∧ ∃ o', DpP w wr p m lim K (some (x, q)) o' M S1 S2 all))) (fun _ wr => match wr.heap[B + 2]? with
      | some (.mapIter _ _ s _) => 1 - s.size
      | _ => 0)
    case atStart => exact .inl ⟨rfl, rfl⟩
    case round =>
      rcases hrel with ⟨rfl, rfl⟩ | ⟨rfl, HP⟩
      · go_wp2_with fail
        go_region_held3 (fun _ => True)
          (trivial)
          (first
            | (go_at_call 33
               refine hd2.mono ?_
               rintro e U2 ⟨rfl, d2, e2, l2, f2, k2⟩
               have H3 : Hid (d2.L = kp S1 S2 all (q 2).L ∧ Ln U2 x (upq (upq q 1 d1) 2 d2) M ∧ (∀ g, Fq x (upq (upq q 1 d1) 2 d2) g → Fq x (upq q 1 d1) g ∨ U1.heap.size ≤ g) ∧ Kl (Fq x (upq q 1 d1)) U1 U2) := ⟨e2, l2, f2, k2⟩
               clear e2 l2 f2 k2)
            | (go_at_call 33
               refine hd1.mono ?_
               rintro e U1 ⟨rfl, d1, e1, l1, f1, k1⟩
               have H2 : Hid (d1.L = kp S1 S2 all (q 1).L ∧ Ln U1 x (upq q 1 d1) M ∧ (∀ g, Fq x (upq q 1 d1) g → Fq x q g ∨ W1.heap.size ≤ g) ∧ Kl (Fq x q) W1 U1) := ⟨e1, l1, f1, ⟨k1.os, k1.tape, k1.output, k1.size, k1.block⟩⟩
               obtain ⟨t0, t1, t2, t3, t4⟩ := HD.out U1 (upq q 1 d1) H2.out.2.2.2 H2.out.2.2.1
               have hd2 := ldrop l1 (i := 2) (by omega) (by omega) S1 S2 all t0 t1 t2 t3 t4
               rw [upq_other q d1 (show (2 : Nat) ≠ 1 by omega), Hn2.out] at hd2
               clear e1 l1 f1 k1 t0 t1 t2 t3 t4))
        have LU1 : Lw U1 p m lim K (some (x, upq q 1 d1)) M := H1.out.1.line H2.out.2.1 H2.out.2.2.2 (fun e => H1.out.1.nx p (.inr e) rfl) (fun e => H1.out.1.nm m e rfl) H2.out.2.2.1
        have LU2 : Lw U2 p m lim K (some (x, upq (upq q 1 d1) 2 d2)) M := LU1.line H3.out.2.1 H3.out.2.2.2 (fun e => LU1.nx p (.inr e) rfl) (fun e => LU1.nm m e rfl) H3.out.2.2.1
        have hfg := forget_any U2 p m lim K _ M LU2 (by omega)
        have HLL : Hid (Lw U1 p m lim K (some (x, upq q 1 d1)) M ∧ Lw U2 p m lim K (some (x, upq (upq q 1 d1) 2 d2)) M) := ⟨LU1, LU2⟩
        clear LU1 LU2 hd1 hd2
        go_wp2_with fail
        refine hfg.mono ?_
        rintro e U3 ⟨⟨u, rfl⟩, o', l3, w3, f3, k3, m3⟩
        have HP : Hid (U3.heap[B + 2]? = some (.mapIter (some m) c #[b] c) ∧ (∀ ty, (Instr.next (.pointer (some ⟨B + 2, 0, none⟩)) false ty).run Tryd.prog U3 = .ok (.tuple #[.bool false]) U3) ∧ ∃ o', DpP w U3 p m lim K (some (x, q)) o' M S1 S2 all) := by
          obtain ⟨a1, a2, a3, a4, a5, a6, a7, a8, a9, a10⟩ := H1.out
          obtain ⟨b1, b2, b3, b4⟩ := H2.out
          obtain ⟨c1, c2, c3, c4⟩ := H3.out
          have hn1 : ∀ g, g < B + 3 → B ≤ g → ¬ Fq x q g := fun g _ h2 e => by have := a7 g e; omega
          have hn2 : ∀ g, g < B + 3 → B ≤ g → ¬ Fq x (upq q 1 d1) g := fun g h1 h2 e => by
            rcases b3 g e with e | e
            · exact hn1 g h1 h2 e
            · omega
          have hsz1 := b4.size
          have hsz2 := c4.size
          have hR : U3.heap[B + 2]? = some (.mapIter (some m) c #[b] c) := (k3.block (B + 2) (by omega) (by omega)).trans ((c4.block (B + 2) (by omega) (hn2 _ (by omega) (by omega))).trans ((b4.block (B + 2) (by omega) (hn1 _ (by omega) (by omega))).trans a4))
          have hm2 : U2.heap[m]? = some (.map #[⟨.int .i64 K, .pointer (some ⟨x, 0, none⟩), b⟩] c) := (c4.block m (by omega) (fun e => HLL.out.1.nm m e rfl)).trans ((b4.block m (by omega) (fun e => a1.nm m e rfl)).trans a5)
          refine ⟨hR, fun ty => ?_, o', l3, ?_, ?_, ?_, fun g hg => ?_, ?_⟩
          · rcases m3 with rfl | m3
            · obtain ⟨c', hc'⟩ := l3.mp
              exact nx0 U3 (B + 2) m c c c' #[b] ty hR hc'
            · exact nx2 U3 (B + 2) m c c b c _ _ ty hR (m3.trans hm2) hbc
          · rw [w3 0 (by omega)]
            rfl
          · rw [w3 1 (by omega)]
            show (upq (upq q 1 d1) 2 d2 1).L = _
            rw [upq_other _ d2 (by omega), upq_same, b1]
            rfl
          · rw [w3 2 (by omega)]
            show (upq (upq q 1 d1) 2 d2 2).L = _
            rw [upq_same, c1]
            rfl
          · rcases f3 g hg with e | e
            · exact .inl (.inl e)
            · rcases c3 g e with e | e
              · rcases b3 g e with e | e
                · exact .inl (.inr e)
                · exact .inr (by omega)
              · exact .inr (by omega)
          · have kw1 : Kl (fun _ => False) w W := Kl.of_below a2
            have kw2 : Kl (Fo m (some (x, q))) w W1 := kw1.mono (fun _ _ e => e.elim) |>.then a3 (fun g hg e => by omega)
            refine ((kw2.then b4 (fun g _ e => .inr e)).then c4 (fun g hg e => ?_)).then k3 (fun g _ e => .inl e)
            rcases b3 g e with e | e
            · exact .inr e
            · omega
        clear hfg l3 w3 f3 k3 m3
        go_wp2
        go_roundw
        case rel => exact .inr ⟨rfl, HP⟩
        case measure => rw [Hit.out, HP.out.1]; simp
      · have hnx2 := HP.out.2.1
        go_wp2
        go_ret
        exact ⟨by first | rfl | simp, HP.out.2.2⟩

end Go.Proofs.YtdfdaambfihjaaaDoor.L
