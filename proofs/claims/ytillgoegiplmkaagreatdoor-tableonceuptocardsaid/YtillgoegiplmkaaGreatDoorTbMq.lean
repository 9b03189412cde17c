import Derived.Test.YtillgoegiplmkaaGreatDoorTbG
import Derived.Test.YtillgoegiplmkaaGreatDoorTbK
import Derived.Test.YtillgoegiplmkaaGreatDoorTbFb
namespace Go.Proofs.YtillgoegiplmkaaGreatDoor.B
open C
set_option linter.unusedVariables false
set_option linter.unusedSimpArgs false

/-! ## The records of a snapshot may be -/
theorem okN_in {f n : Int} {i : Nat} (h : hasB f i = true) (hn : numB i n = true) : okN f i n = true := by
  unfold okN
  rw [if_pos h]
  exact hn
theorem okN_out {f : Int} {i : Nat} (h : hasB f i = false) : okN f i 0 = true := by
  unfold okN
  rw [if_neg (by rw [h]; simp)]
  rfl
theorem num_i {n : Int} (i : Nat) (h0 : 0 ≤ n) (h1 : n ≤ mxN) : numB (i + 2) n = true := by
  unfold numB
  rw [if_neg (by omega), if_neg (by omega)]
  simp only [Bool.and_eq_true, decide_eq_true_eq]
  exact ⟨h0, h1⟩
theorem num_0 {n : Int} (h0 : 1 ≤ n) (h1 : n ≤ mxN) : numB 0 n = true := by
  unfold numB
  rw [if_pos rfl]
  simp only [Bool.and_eq_true, decide_eq_true_eq]
  exact ⟨h0, h1⟩
theorem num_1 {n : Int} (h0 : 1 ≤ n) (h1 : n < mxN) : numB 1 n = true := by
  unfold numB
  rw [if_neg (by omega), if_pos rfl]
  simp only [Bool.and_eq_true, decide_eq_true_eq]
  have : n < 4611686018427387903 := h1
  exact ⟨h0, by omega⟩
theorem may_of {r : Rc} (k : Int) (hk : r.kind = k) (h0 : kf k ≠ 0) (n0 : okN (kf k) 0 r.org = true) (n1 : okN (kf k) 1 r.num = true) (n2 : okN (kf k) 2 r.peer = true) (n3 : okN (kf k) 3 r.srv = true) (n4 : okN (kf k) 4 r.off = true) (n5 : okN (kf k) 5 r.red = true) (n6 : okN (kf k) 6 r.size = true) (n7 : okN (kf k) 7 r.how = true)
    (hs : hasB (kf k) 8 = true ∨ r.spans = []) (hd : hasB (kf k) 9 = true ∨ r.data = []) (hu : suitB r = true) : mayB6 r = true := by
  unfold mayB6 allowB
  rw [hk]
  have e : okNs (kf k) r 8 = true := by
    unfold okNs
    rw [List.all_eq_true]
    intro i hi
    have h8 : i < 8 := List.mem_range.mp hi
    rcases (show i = 0 ∨ i = 1 ∨ i = 2 ∨ i = 3 ∨ i = 4 ∨ i = 5 ∨ i = 6 ∨ i = 7 by omega) with rfl | rfl | rfl | rfl | rfl | rfl | rfl | rfl
    · exact n0
    · exact n1
    · exact n2
    · exact n3
    · exact n4
    · exact n5
    · exact n6
    · exact n7
  rw [e, hu]
  have a : (hasB (kf k) 8 || r.spans.length == 0) = true := by
    rcases hs with h | h
    · rw [h]; rfl
    · rw [h]; simp
  have b : (hasB (kf k) 9 || r.data.length == 0) = true := by
    rcases hd with h | h
    · rw [h]; rfl
    · rw [h]; simp
  rw [a, b]
  simp [h0]
theorem my8 : MY where
  m1 d b h1 h2 h3 h4 := by
    have hb : b ≤ mxN := by have : b ≤ 1073741824 := h4; show b ≤ 4611686018427387903; omega
    refine may_of (r := btR d b) 1 rfl (by decide) (okN_in (by decide) (num_0 h1 h2)) (okN_out (by decide)) (okN_out (by decide)) (okN_out (by decide)) (okN_out (by decide)) (okN_out (by decide)) (okN_in (by decide) (num_i 4 (by show 0 ≤ b; omega) hb)) (okN_out (by decide)) (.inr rfl) (.inr rfl) ?_
    unfold suitB
    rw [if_pos (show (btR d b).kind = 1 from rfl)]
    simp only [Bool.and_eq_true, decide_eq_true_eq]
    exact ⟨h3, h4⟩
  m2 n h1 h2 := by
    refine may_of (r := nxR n) 2 rfl (by decide) (okN_out (by decide)) (okN_out (by decide)) (okN_out (by decide)) (okN_out (by decide)) (okN_out (by decide)) (okN_out (by decide)) (okN_in (by decide) (num_i 4 (by show 0 ≤ n; omega) h2)) (okN_out (by decide)) (.inr rfl) (.inr rfl) ?_
    unfold suitB
    rw [if_neg (by simp [nxR, rc0]), if_pos (show (nxR n).kind = 2 from rfl)]
    simp only [decide_eq_true_eq]
    exact h1
  m3 d n x h1 h2 hx := by
    have hm : (65536 : Int) ≤ mxN := by decide
    have ho : 1 ≤ x.org ∧ x.org ≤ mxN := by rw [hx.org]; exact ⟨h1, h2⟩
    refine may_of (r := opR x) 3 rfl (by decide) (okN_in (by decide) (num_0 ho.1 ho.2)) (okN_in (by decide) (num_1 hx.num.1 hx.num.2.2)) (okN_in (by decide) (num_i 0 (by have := hx.peer.1; show 0 ≤ x.peer; omega) hx.peer.2.1)) (okN_in (by decide) (num_i 1 hx.srv.1 hx.srv.2)) (okN_out (by decide)) (okN_in (by decide) (num_i 3 (by have := hx.len.1; show 0 ≤ x.red; omega) (by have := hx.len; show x.red ≤ mxN; omega))) (okN_in (by decide) (num_i 4 (by have := hx.len; show 0 ≤ x.size; omega) (by have := hx.len; show x.size ≤ mxN; omega))) (okN_out (by decide)) (.inr rfl) (.inl (by decide)) ?_
    unfold suitB
    rw [if_neg (by simp [opR, rc0]), if_neg (by simp [opR, rc0]), if_pos (show (opR x).kind = 3 from rfl)]
    simp only [Bool.and_eq_true, decide_eq_true_eq, beq_iff_eq]
    exact ⟨hx.peer.1, ⟨hx.len.1, hx.len.2.1⟩, hx.len.2.2, hx.data⟩
  m4 d n x h1 h2 hx := by
    have ho : 1 ≤ x.org ∧ x.org ≤ mxN := by rw [hx.org]; exact ⟨h1, h2⟩
    have hm : (6 : Int) ≤ mxN := by decide
    refine may_of (r := enR x) 4 rfl (by decide) (okN_in (by decide) (num_0 ho.1 ho.2)) (okN_in (by decide) (num_1 hx.num.1 hx.num.2.2)) (okN_out (by decide)) (okN_out (by decide)) (okN_out (by decide)) (okN_out (by decide)) (okN_out (by decide)) (okN_in (by decide) (num_i 5 hx.how.1 (by have := hx.how.2; show x.how ≤ mxN; omega))) (.inr rfl) (.inr rfl) ?_
    unfold suitB
    rw [if_neg (by simp [enR, rc0]), if_neg (by simp [enR, rc0]), if_neg (by simp [enR, rc0]), if_pos (show (enR x).kind = 4 from rfl)]
    simp only [decide_eq_true_eq]
    exact hx.how.2
  m6 d i h hi hg hh hm := by
    have hm1 : (65536 : Int) ≤ mxN := by decide
    have hr := hi.rt.mem h hm
    have hl := lst_top hi.rt h hm
    have hdt : (i.data.length : Int) = lst i.hv := by
      have := hi.dat
      rw [if_neg (by rw [hh]; simp)] at this
      have hp := lst_pos hi.rt (Int.le_refl 0)
      omega
    obtain ⟨e1, e2⟩ := rd_data (i := i) (s := h) hr.1 hr.2.1 (by omega)
    have hmo := hi.most
    have ht : (rdR8 i h).off + ((rdR8 i h).data.length : Int) = h.2 := by
      show h.1 + ((rdR8 i h).data.length : Int) = h.2
      omega
    have hrd := hi.red
    have hsz := hi.size
    have hlp := lst_pos hi.rt (Int.le_refl 0)
    refine may_of (r := rdR8 i h) 6 rfl (by decide) (okN_in (by decide) (num_0 hi.org.1 hi.org.2.1)) (okN_in (by decide) (num_1 hi.num.1 hi.num.2)) (okN_out (by decide)) (okN_in (by decide) (num_i 1 hi.srv.1 hi.srv.2)) (okN_in (by decide) (num_i 2 hr.1 (by show h.1 ≤ mxN; omega))) (okN_in (by decide) (num_i 3 (by show 0 ≤ i.red; omega) (by show i.red ≤ mxN; omega))) (okN_in (by decide) (num_i 4 (by show 0 ≤ i.size; omega) (by show i.size ≤ mxN; omega))) (okN_out (by decide)) (.inr rfl) (.inl (by decide)) ?_
    unfold suitB
    rw [if_neg (by simp [rdR8, rc0]), if_neg (by simp [rdR8, rc0]), if_neg (by simp [rdR8, rc0]), if_neg (by simp [rdR8, rc0]), if_pos (show (rdR8 i h).kind = 6 from rfl), ht]
    simp only [Bool.and_eq_true, decide_eq_true_eq]
    refine ⟨by omega, by omega, ?_, ?_⟩
    · unfold lenB
      simp only [Bool.or_eq_true, Bool.and_eq_true, decide_eq_true_eq, beq_iff_eq]
      show i.red = 0 ∨ h.2 ≤ i.red ∧ i.red ≤ 65536
      omega
    · unfold lenB
      simp only [Bool.or_eq_true, Bool.and_eq_true, decide_eq_true_eq, beq_iff_eq]
      show i.size = 0 ∨ max h.2 i.red ≤ i.size ∧ i.size ≤ 65536
      omega
  m7 d i hi := may_of (r := rc0 7 i.s) 7 rfl (by decide) (okN_in (by decide) (num_0 hi.org.1 hi.org.2.1)) (okN_in (by decide) (num_1 hi.num.1 hi.num.2)) (okN_out (by decide)) (okN_out (by decide)) (okN_out (by decide)) (okN_out (by decide)) (okN_out (by decide)) (okN_out (by decide)) (.inr rfl) (.inr rfl) rfl
  m8 d i hi := by
    have hm : (5 : Int) ≤ mxN := by decide
    refine may_of (r := { rc0 8 i.s with how := i.how }) 8 rfl (by decide) (okN_in (by decide) (num_0 hi.org.1 hi.org.2.1)) (okN_in (by decide) (num_1 hi.num.1 hi.num.2)) (okN_out (by decide)) (okN_out (by decide)) (okN_out (by decide)) (okN_out (by decide)) (okN_out (by decide)) (okN_in (by decide) (num_i 5 hi.how.1 (by have := hi.how.2; show i.how ≤ mxN; omega))) (.inr rfl) (.inr rfl) ?_
    unfold suitB
    rw [if_neg (by simp [rc0]), if_neg (by simp [rc0]), if_neg (by simp [rc0]), if_neg (by simp [rc0]), if_neg (by simp [rc0]), if_pos (show ({ rc0 8 i.s with how := i.how } : Rc).kind = 8 from rfl)]
    simp only [decide_eq_true_eq]
    exact hi.how.2
  m10 d i hi := may_of (r := rc0 10 i.s) 10 rfl (by decide) (okN_in (by decide) (num_0 hi.org.1 hi.org.2.1)) (okN_in (by decide) (num_1 hi.num.1 hi.num.2)) (okN_out (by decide)) (okN_out (by decide)) (okN_out (by decide)) (okN_out (by decide)) (okN_out (by decide)) (okN_out (by decide)) (.inr rfl) (.inr rfl) rfl
  m12 d i hi hh := by
    have hm1 : (65536 : Int) ≤ mxN := by decide
    obtain ⟨dn, sh⟩ := hi.hd hh
    obtain ⟨r1, hv⟩ := hi.dn dn
    have hl : lst i.hv = i.red := by rw [hv]; rfl
    have hrd := hi.red
    have hsz := hi.size
    rw [hl] at hrd hsz
    refine may_of (r := { rc0 12 i.s with srv := i.srv, red := i.red, size := i.size }) 12 rfl (by decide) (okN_in (by decide) (num_0 hi.org.1 hi.org.2.1)) (okN_in (by decide) (num_1 hi.num.1 hi.num.2)) (okN_out (by decide)) (okN_in (by decide) (num_i 1 hi.srv.1 hi.srv.2)) (okN_out (by decide)) (okN_in (by decide) (num_i 3 (by show 0 ≤ i.red; omega) (by show i.red ≤ mxN; omega))) (okN_in (by decide) (num_i 4 (by show 0 ≤ i.size; omega) (by show i.size ≤ mxN; omega))) (okN_out (by decide)) (.inr rfl) (.inr rfl) ?_
    unfold suitB
    rw [if_neg (by simp [rc0]), if_neg (by simp [rc0]), if_neg (by simp [rc0]), if_neg (by simp [rc0]), if_neg (by simp [rc0]), if_neg (by simp [rc0]), if_neg (by simp [rc0]), if_pos (show ({ rc0 12 i.s with srv := i.srv, red := i.red, size := i.size } : Rc).kind = 12 from rfl)]
    unfold lenB
    simp only [Bool.or_eq_true, Bool.and_eq_true, decide_eq_true_eq, beq_iff_eq]
    omega
  m11 x h1 h2 hn hl ht := by
    refine may_of (r := tbR x) 11 rfl (by decide) (okN_out (by decide)) (okN_out (by decide)) (okN_out (by decide)) (okN_out (by decide)) (okN_out (by decide)) (okN_out (by decide)) (okN_in (by decide) (num_i 4 (by show 0 ≤ x.1; omega) h2)) (okN_out (by decide)) (.inl (by decide)) (.inr rfl) ?_
    unfold suitB
    rw [if_neg (by simp [tbR, rc0]), if_neg (by simp [tbR, rc0]), if_neg (by simp [tbR, rc0]), if_neg (by simp [tbR, rc0]), if_neg (by simp [tbR, rc0]), if_neg (by simp [tbR, rc0]), if_pos (show (tbR x).kind = 11 from rfl)]
    unfold tombB
    simp only [Bool.and_eq_true, decide_eq_true_eq]
    have h0 : 1 ≤ x.2.length := List.length_pos_iff.mpr hn
    refine ⟨h1, ⟨by show 1 ≤ (x.2.length : Int); omega, by show (x.2.length : Int) ≤ 500; omega⟩, setB_iff.mpr ⟨by show x.2.length ≤ 2000; omega, ht.mono (by omega)⟩, ?_⟩
    show 1 ≤ (x.2.head?.getD (0, 0)).1
    cases e : x.2 with
    | nil => exact absurd e hn
    | cons a r =>
      rw [e] at ht
      exact ht.1
/-- A SNAPSHOT COMES TO THE SAME. -/
theorem snap_ld {T : T8} (h : T.Ok) : ld t0 0 T.snap = (some T, 0, 0) := (ld_snap my8 h).ld
end Go.Proofs.YtillgoegiplmkaaGreatDoor.B

namespace Go.Proofs.YtillgoegiplmkaaGreatDoor.B
open C
open Go.RowKit Go.Maps
set_option linter.unusedVariables false
set_option linter.unusedSimpArgs false

set_option maxRecDepth 100000 in
set_option maxHeartbeats 16000000 in
/-- SAME, of two states that say the same. -/
theorem same8_any (w : World) (lo lo2 : Nat) (id bo nx : Int) (vo vi vt vp vj vu : Value) (P P2 : List (Og × Value)) (Q Q2 : List (Ic × Value × Value)) (R R2 : List (Tm × Value)) (h : StR lo vo vi vt P Q R w) (h2 : StR lo2 vp vj vu P2 Q2 R2 w) (eP : P.map Prod.fst = P2.map Prod.fst) (eQ : Q.map Prod.fst = Q2.map Prod.fst) (eR : R.map Prod.fst = R2.map Prod.fst)
    (hP : ∀ p ∈ P, sW p.1.s) (hQ : ∀ q ∈ Q, sW q.1.s ∧ q.1.hv.length ≤ 1048576) (hR : ∀ r ∈ R, r.1.2.length ≤ 1048576) (bP : P.length ≤ 68719476736) (bQ : Q.length ≤ 68719476736) (bR : R.length ≤ 68719476736) :
    Calls Tryz.prog 27 #[.agg #[.int .i64 id, .int .i64 bo, .int .i64 nx, vo, vi, vt], .agg #[.int .i64 id, .int .i64 bo, .int .i64 nx, vp, vj, vu]] w fun e w' => e = .returned (.bool true) ∧ Below w.heap.size w w' := by
  obtain ⟨ao, no, co, rfl⟩ := own_sl8 h.ro
  obtain ⟨ai, ni, ci, rfl⟩ := own_sl8 h.ri
  obtain ⟨«at», nt, ct, rfl⟩ := own_sl8 h.rt
  obtain ⟨ap, np, cp, rfl⟩ := own_sl8 h2.ro
  obtain ⟨aj, nj, cj, rfl⟩ := own_sl8 h2.ri
  obtain ⟨au, nu, cu, rfl⟩ := own_sl8 h2.rt
  have q1 := own_len8 h.ro
  have q2 := own_len8 h.ri
  have q3 := own_len8 h.rt
  obtain rfl : no = np := by have a := own_len8 h2.ro; have b := congrArg List.length eP; simp at b; omega
  obtain rfl : ni = nj := by have a := own_len8 h2.ri; have b := congrArg List.length eQ; simp at b; omega
  obtain rfl : nt = nu := by have a := own_len8 h2.rt; have b := congrArg List.length eR; simp at b; omega
  have HA : Hid (StR lo (.slice ao no co) (.slice ai ni ci) (.slice «at» nt ct) P Q R w ∧ StR lo2 (.slice ap no cp) (.slice aj ni cj) (.slice au nt cu) P2 Q2 R2 w) := ⟨h, h2⟩
  have HM : Hid ((P.map Prod.fst = P2.map Prod.fst ∧ Q.map Prod.fst = Q2.map Prod.fst ∧ R.map Prod.fst = R2.map Prod.fst) ∧ (∀ p ∈ P, sW p.1.s) ∧ (∀ q ∈ Q, sW q.1.s ∧ q.1.hv.length ≤ 1048576) ∧ (∀ r ∈ R, r.1.2.length ≤ 1048576)) := ⟨⟨eP, eQ, eR⟩, hP, hQ, hR⟩
  have HN : Hid (no = P.length ∧ ni = Q.length ∧ nt = R.length ∧ no = P2.length ∧ ni = Q2.length ∧ nt = R2.length) := ⟨q1, q2, q3, own_len8 h2.ro, own_len8 h2.ri, own_len8 h2.rt⟩
  have ho : no ≤ 68719476736 := by omega
  have hi : ni ≤ 68719476736 := by omega
  have ht : nt ≤ 68719476736 := by omega
  obtain ⟨V, hV⟩ : ∃ V, (w.alloc (.cells #[.int .i64 id, .int .i64 bo, .int .i64 nx, .slice ao no co, .slice ai ni ci, .slice «at» nt ct] 58)).alloc (.cells #[.int .i64 id, .int .i64 bo, .int .i64 nx, .slice ap no cp, .slice aj ni cj, .slice au nt cu] 58) = V := ⟨_, rfl⟩
  have HV : Hid ((w.alloc (.cells #[.int .i64 id, .int .i64 bo, .int .i64 nx, .slice ao no co, .slice ai ni ci, .slice «at» nt ct] 58)).alloc (.cells #[.int .i64 id, .int .i64 bo, .int .i64 nx, .slice ap no cp, .slice aj ni cj, .slice au nt cu] 58) = V) := hV
  have hbV : Below w.heap.size w V := by rw [← hV]; exact ((Below.refl _ _).alloc (Nat.le_refl _) _).alloc (by simp) _
  have hx1 : V.heap[w.heap.size]? = some (.cells #[.int .i64 id, .int .i64 bo, .int .i64 nx, .slice ao no co, .slice ai ni ci, .slice «at» nt ct] 58) := by rw [← hV]; exact (Below.heap_alloc _ _ _ (by simp)).trans (heap_alloc_new' w _)
  have hx2 : V.heap[w.heap.size + 1]? = some (.cells #[.int .i64 id, .int .i64 bo, .int .i64 nx, .slice ap no cp, .slice aj ni cj, .slice au nt cu] 58) := by rw [← hV]; have := heap_alloc_new' (w.alloc (.cells #[.int .i64 id, .int .i64 bo, .int .i64 nx, .slice ao no co, .slice ai ni ci, .slice «at» nt ct] 58)) (.cells #[.int .i64 id, .int .i64 bo, .int .i64 nx, .slice ap no cp, .slice aj ni cj, .slice au nt cu] 58); rwa [World.size_alloc] at this
  have HB0 : Hid (Below w.heap.size w V) := hbV
  obtain ⟨x, hx⟩ : ∃ x, w.heap.size = x := ⟨_, rfl⟩
  have HX : Hid (w.heap.size = x) := hx
  have HC : Hid (∀ W : World, Below V.heap.size V W → W.cell? ⟨x, 0, none⟩ = some (.int .i64 id) ∧ W.cell? ⟨x, 1, none⟩ = some (.int .i64 bo) ∧ W.cell? ⟨x, 2, none⟩ = some (.int .i64 nx) ∧ W.cell? ⟨x, 3, none⟩ = some (.slice ao no co) ∧ W.cell? ⟨x, 4, none⟩ = some (.slice ai ni ci) ∧ W.cell? ⟨x, 5, none⟩ = some (.slice «at» nt ct) ∧ W.cell? ⟨x + 1, 0, none⟩ = some (.int .i64 id) ∧ W.cell? ⟨x + 1, 1, none⟩ = some (.int .i64 bo) ∧ W.cell? ⟨x + 1, 2, none⟩ = some (.int .i64 nx) ∧ W.cell? ⟨x + 1, 3, none⟩ = some (.slice ap no cp) ∧ W.cell? ⟨x + 1, 4, none⟩ = some (.slice aj ni cj) ∧ W.cell? ⟨x + 1, 5, none⟩ = some (.slice au nt cu)) := fun W hW => by
    have l1 := (Array.getElem?_eq_some_iff.1 hx1).1
    have l2 := (Array.getElem?_eq_some_iff.1 hx2).1
    rw [← hx]
    have g1 := (hW.block _ l1).trans hx1
    have g2 := (hW.block _ l2).trans hx2
    refine ⟨?_, ?_, ?_, ?_, ?_, ?_, ?_, ?_, ?_, ?_, ?_, ?_⟩ <;> first | exact (cell_of_row _ _ _ _ _ _ g1).trans rfl | exact (cell_of_row _ _ _ _ _ _ g2).trans rfl
  obtain ⟨a0, a1, a2, a3, a4, a5, b0, b1, b2, b3, b4, b5⟩ := HC.out V (Below.refl _ _)
  clear h h2 eP eQ eR hP hQ hR bP bQ bR q1 q2 q3 hV hbV hx1 hx2
  go_enter Tryz.func27, Tryz.ntmps27
  go_upto_region 1 with fail
  rw [HV.out]
  try rw [hx]
  clear hx
  try simp only [List.append_eq, List.cons_append, List.nil_append]
  go_wp2_with fail
  clear a0 a1 a2 a3 a4 a5 b0 b1 b2 b3 b4 b5
  go_loopw [5] (fun s5 wr => ∃ k : Nat, k ≤ no ∧ s5 = .int .i64 k ∧ Hid (Below V.heap.size V wr)) (fun s5 _ => no - (intOf s5).toNat)
  case atStart => exact ⟨0, by omega, rfl, Below.refl _ _⟩
  case round =>
    obtain ⟨k, hk, rfl, HB⟩ := hrel
    by_cases hlt : k < no
    · have hlt' : (k : Int) < (no : Int) := by omega
      have h0k : 0 ≤ (k : Int) := by omega
      have hwk : IntKind.i64.wrap ((k : Int) + 1) = (k : Int) + 1 := by rw [IntKind.wrap_i64]; omega
      have hbw := HB0.out.trans (HB.out.mono HB0.out.size)
      have s1 := HA.out.1.below hbw
      have s2 := HA.out.2.below hbw
      have hb0 : Below wr.heap.size wr wr.drew := (Below.refl _ _).drew
      obtain ⟨⟨o, v1⟩, hy1⟩ := get_some P k (by have := HN.out.1; omega)
      obtain ⟨⟨o2, v2⟩, hy2⟩ := get_some P2 k (by have := HN.out.2.2.2.1; omega)
      obtain rfl : o = o2 := same_at HM.out.1.1 hy1 hy2
      have m1 := List.mem_of_getElem? hy1
      have m2 := List.mem_of_getElem? hy2
      obtain ⟨av, nv, cv, rfl⟩ := own_sl8 (s1.po _ m1)
      obtain ⟨bv, nv2, dv, rfl⟩ := own_sl8 (s2.po _ m2)
      have y1 := byo_lies (s1.po _ m1)
      have y2 := byo_lies (s2.po _ m2)
      have hsw := HM.out.2.1 _ m1
      simp only at y1 y2 hsw
      obtain rfl : nv = nv2 := y1.2.symm.trans y2.2
      have hcall := sameOut8_eq o av bv nv cv dv wr.drew y1.2 (y1.1.below hb0) (y2.1.below hb0) hsw
      have r1' := s1.ro
      have r2' := s2.ro
      have e1 := own_len8 r1'
      have e2 := own_len8 r2'
      rw [← e1] at r1'
      rw [← e2] at r2'
      obtain ⟨g, cp1, eg, _, _⟩ := World.ownsRow.form r1' (by omega)
      obtain ⟨g2, cp2, eg2, _, _⟩ := World.ownsRow.form r2' (by omega)
      cases eg
      cases eg2
      have HS : Hid (∀ W : World, Below wr.heap.size wr W → W.cell? ⟨x, 3, none⟩ = some (.slice (some ⟨g, 0, none⟩) no co) ∧ W.cell? ⟨x + 1, 3, none⟩ = some (.slice (some ⟨g2, 0, none⟩) no cp) ∧ W.cell? ⟨g, k * 9, none⟩ = some (.int .i64 o.org) ∧ W.cell? ⟨g, k * 9 + 1, none⟩ = some (.int .i64 o.num) ∧ W.cell? ⟨g, k * 9 + 2, none⟩ = some (.int .i64 o.peer) ∧ W.cell? ⟨g, k * 9 + 3, none⟩ = some (.int .i64 o.srv) ∧ W.cell? ⟨g, k * 9 + 4, none⟩ = some (.int .i64 o.red) ∧ W.cell? ⟨g, k * 9 + 5, none⟩ = some (.int .i64 o.size) ∧ W.cell? ⟨g, k * 9 + 6, none⟩ = some (.slice av nv cv) ∧ W.cell? ⟨g, k * 9 + 7, none⟩ = some (.bool o.ended) ∧ W.cell? ⟨g, k * 9 + 8, none⟩ = some (.int .i64 o.how) ∧ W.cell? ⟨g2, k * 9, none⟩ = some (.int .i64 o.org) ∧ W.cell? ⟨g2, k * 9 + 1, none⟩ = some (.int .i64 o.num) ∧ W.cell? ⟨g2, k * 9 + 2, none⟩ = some (.int .i64 o.peer) ∧ W.cell? ⟨g2, k * 9 + 3, none⟩ = some (.int .i64 o.srv) ∧ W.cell? ⟨g2, k * 9 + 4, none⟩ = some (.int .i64 o.red) ∧ W.cell? ⟨g2, k * 9 + 5, none⟩ = some (.int .i64 o.size) ∧ W.cell? ⟨g2, k * 9 + 6, none⟩ = some (.slice bv nv dv) ∧ W.cell? ⟨g2, k * 9 + 7, none⟩ = some (.bool o.ended) ∧ W.cell? ⟨g2, k * 9 + 8, none⟩ = some (.int .i64 o.how)) := fun W hW => by
        obtain ⟨_, _, _, u3, u4, u5, _, _, _, t3, t4, t5⟩ := HC.out W (HB.out.trans (hW.mono HB.out.size))
        have r1 := own_at r1' (fun g hg => hW.block g (World.ownsRow.lt r1' g hg).2)
        have r2 := own_at r2' (fun g hg => hW.block g (World.ownsRow.lt r2' g hg).2)
        exact ⟨u3, t3, own_cell9 r1 hy1 (j := 0) (by decide) rfl, own_cell9 r1 hy1 (j := 1) (by decide) rfl, own_cell9 r1 hy1 (j := 2) (by decide) rfl, own_cell9 r1 hy1 (j := 3) (by decide) rfl, own_cell9 r1 hy1 (j := 4) (by decide) rfl, own_cell9 r1 hy1 (j := 5) (by decide) rfl, own_cell9 r1 hy1 (j := 6) (by decide) rfl, own_cell9 r1 hy1 (j := 7) (by decide) rfl, own_cell9 r1 hy1 (j := 8) (by decide) rfl, own_cell9 r2 hy2 (j := 0) (by decide) rfl, own_cell9 r2 hy2 (j := 1) (by decide) rfl, own_cell9 r2 hy2 (j := 2) (by decide) rfl, own_cell9 r2 hy2 (j := 3) (by decide) rfl, own_cell9 r2 hy2 (j := 4) (by decide) rfl, own_cell9 r2 hy2 (j := 5) (by decide) rfl, own_cell9 r2 hy2 (j := 6) (by decide) rfl, own_cell9 r2 hy2 (j := 7) (by decide) rfl, own_cell9 r2 hy2 (j := 8) (by decide) rfl⟩
      have HC0 := HS.out wr (Below.refl _ _)
      obtain ⟨_, _, _, h1, _, _, _, _, _, h2, _, _⟩ := HC.out wr HB.out
      clear s1 s2 hb0 hbw r1' r2' e1 e2 y1 y2 hsw m1 m2 hy1 hy2
      go_wp2_with fail
      clear h1 h2
      go_region_held3 (fun V => V.cell? ⟨x, 3, none⟩ = some (.slice (some ⟨g, 0, none⟩) no co) ∧ V.cell? ⟨x + 1, 3, none⟩ = some (.slice (some ⟨g2, 0, none⟩) no cp) ∧ V.cell? ⟨g, k * 9, none⟩ = some (.int .i64 o.org) ∧ V.cell? ⟨g, k * 9 + 1, none⟩ = some (.int .i64 o.num) ∧ V.cell? ⟨g, k * 9 + 2, none⟩ = some (.int .i64 o.peer) ∧ V.cell? ⟨g, k * 9 + 3, none⟩ = some (.int .i64 o.srv) ∧ V.cell? ⟨g, k * 9 + 4, none⟩ = some (.int .i64 o.red) ∧ V.cell? ⟨g, k * 9 + 5, none⟩ = some (.int .i64 o.size) ∧ V.cell? ⟨g, k * 9 + 6, none⟩ = some (.slice av nv cv) ∧ V.cell? ⟨g, k * 9 + 7, none⟩ = some (.bool o.ended) ∧ V.cell? ⟨g, k * 9 + 8, none⟩ = some (.int .i64 o.how) ∧ V.cell? ⟨g2, k * 9, none⟩ = some (.int .i64 o.org) ∧ V.cell? ⟨g2, k * 9 + 1, none⟩ = some (.int .i64 o.num) ∧ V.cell? ⟨g2, k * 9 + 2, none⟩ = some (.int .i64 o.peer) ∧ V.cell? ⟨g2, k * 9 + 3, none⟩ = some (.int .i64 o.srv) ∧ V.cell? ⟨g2, k * 9 + 4, none⟩ = some (.int .i64 o.red) ∧ V.cell? ⟨g2, k * 9 + 5, none⟩ = some (.int .i64 o.size) ∧ V.cell? ⟨g2, k * 9 + 6, none⟩ = some (.slice bv nv dv) ∧ V.cell? ⟨g2, k * 9 + 7, none⟩ = some (.bool o.ended) ∧ V.cell? ⟨g2, k * 9 + 8, none⟩ = some (.int .i64 o.how))
        (first | exact HC0 | exact HCU.out)
        (first
          | (go_at_call 67
             refine hcall.mono ?_
             rintro e U ⟨rfl, hU⟩
             have hU' : Below wr.heap.size wr U := ⟨hU.os, hU.tape, hU.output, hU.size, hU.block⟩
             have HCU : Hid (U.cell? ⟨x, 3, none⟩ = some (.slice (some ⟨g, 0, none⟩) no co) ∧ U.cell? ⟨x + 1, 3, none⟩ = some (.slice (some ⟨g2, 0, none⟩) no cp) ∧ U.cell? ⟨g, k * 9, none⟩ = some (.int .i64 o.org) ∧ U.cell? ⟨g, k * 9 + 1, none⟩ = some (.int .i64 o.num) ∧ U.cell? ⟨g, k * 9 + 2, none⟩ = some (.int .i64 o.peer) ∧ U.cell? ⟨g, k * 9 + 3, none⟩ = some (.int .i64 o.srv) ∧ U.cell? ⟨g, k * 9 + 4, none⟩ = some (.int .i64 o.red) ∧ U.cell? ⟨g, k * 9 + 5, none⟩ = some (.int .i64 o.size) ∧ U.cell? ⟨g, k * 9 + 6, none⟩ = some (.slice av nv cv) ∧ U.cell? ⟨g, k * 9 + 7, none⟩ = some (.bool o.ended) ∧ U.cell? ⟨g, k * 9 + 8, none⟩ = some (.int .i64 o.how) ∧ U.cell? ⟨g2, k * 9, none⟩ = some (.int .i64 o.org) ∧ U.cell? ⟨g2, k * 9 + 1, none⟩ = some (.int .i64 o.num) ∧ U.cell? ⟨g2, k * 9 + 2, none⟩ = some (.int .i64 o.peer) ∧ U.cell? ⟨g2, k * 9 + 3, none⟩ = some (.int .i64 o.srv) ∧ U.cell? ⟨g2, k * 9 + 4, none⟩ = some (.int .i64 o.red) ∧ U.cell? ⟨g2, k * 9 + 5, none⟩ = some (.int .i64 o.size) ∧ U.cell? ⟨g2, k * 9 + 6, none⟩ = some (.slice bv nv dv) ∧ U.cell? ⟨g2, k * 9 + 7, none⟩ = some (.bool o.ended) ∧ U.cell? ⟨g2, k * 9 + 8, none⟩ = some (.int .i64 o.how)) := HS.out _ hU'
             have HBU : Hid (Below V.heap.size V U) := HB.out.trans (hU'.mono HB.out.size)))
      all_goals (
        clear hcall HC0
        go_wp2
        go_roundw
        case rel => exact ⟨k + 1, by omega, by go_num, HBU⟩
        case measure => simp [intOf]; omega)
    · have hlt' : ¬ (k : Int) < (no : Int) := by omega
      obtain ⟨_, _, _, h1, _, _, _, _, _, h2, _, _⟩ := HC.out wr HB.out
      go_upto_region 10 with fail
      clear h1 h2
      go_loopw [7] (fun s5 wr => ∃ k : Nat, k ≤ ni ∧ s5 = .int .i64 k ∧ Hid (Below V.heap.size V wr)) (fun s5 _ => ni - (intOf s5).toNat)
      case atStart => exact ⟨0, by omega, rfl, HB⟩
      case round =>
        obtain ⟨k, hk, rfl, HB9⟩ := hrel
        clear HB
        have HB := HB9
        clear HB9
        by_cases hlt : k < ni
        · have hlt' : (k : Int) < (ni : Int) := by omega
          have h0k : 0 ≤ (k : Int) := by omega
          have hwk : IntKind.i64.wrap ((k : Int) + 1) = (k : Int) + 1 := by rw [IntKind.wrap_i64]; omega
          have hbw := HB0.out.trans (HB.out.mono HB0.out.size)
          have s1 := HA.out.1.below hbw
          have s2 := HA.out.2.below hbw
          have hb0 : Below wr.heap.size wr wr.drew := (Below.refl _ _).drew
          obtain ⟨⟨i, z1, v1⟩, hy1⟩ := get_some Q k (by have := HN.out.2.1; omega)
          obtain ⟨⟨i2, z2, v2⟩, hy2⟩ := get_some Q2 k (by have := HN.out.2.2.2.2.1; omega)
          obtain rfl : i = i2 := same_at HM.out.1.2.1 hy1 hy2
          have m1 := List.mem_of_getElem? hy1
          have m2 := List.mem_of_getElem? hy2
          obtain ⟨a9, ns, cs, rfl⟩ := own_sl8 (s1.pi _ m1).1
          obtain ⟨av, nv, cv, rfl⟩ := own_sl8 (s1.pi _ m1).2
          obtain ⟨b9, ns2, ds, rfl⟩ := own_sl8 (s2.pi _ m2).1
          obtain ⟨bv, nv2, dv, rfl⟩ := own_sl8 (s2.pi _ m2).2
          have z1 := so_spa (s1.pi _ m1).1
          have z2 := so_spa (s2.pi _ m2).1
          have y1 := byo_lies (s1.pi _ m1).2
          have y2 := byo_lies (s2.pi _ m2).2
          have hsw := HM.out.2.2.1 _ m1
          simp only at z1 z2 y1 y2 hsw
          obtain rfl : nv = nv2 := y1.2.symm.trans y2.2
          obtain rfl : ns = ns2 := z1.2.symm.trans z2.2
          have hcall := sameIn8_eq i a9 b9 ns cs ds av bv nv cv dv wr.drew z1.2 (by have := hsw.2; rw [z1.2] at this; omega) (z1.1.below hb0) (z2.1.below hb0) y1.2 (y1.1.below hb0) (y2.1.below hb0) hsw.1
          have r1' := s1.ri
          have r2' := s2.ri
          have e1 := own_len8 r1'
          have e2 := own_len8 r2'
          rw [← e1] at r1'
          rw [← e2] at r2'
          obtain ⟨g, cp1, eg, _, _⟩ := World.ownsRow.form r1' (by omega)
          obtain ⟨g2, cp2, eg2, _, _⟩ := World.ownsRow.form r2' (by omega)
          cases eg
          cases eg2
          have HS : Hid (∀ W : World, Below wr.heap.size wr W → W.cell? ⟨x, 4, none⟩ = some (.slice (some ⟨g, 0, none⟩) ni ci) ∧ W.cell? ⟨x + 1, 4, none⟩ = some (.slice (some ⟨g2, 0, none⟩) ni cj) ∧ W.cell? ⟨g, k * 12, none⟩ = some (.int .i64 i.org) ∧ W.cell? ⟨g, k * 12 + 1, none⟩ = some (.int .i64 i.num) ∧ W.cell? ⟨g, k * 12 + 2, none⟩ = some (.int .i64 i.srv) ∧ W.cell? ⟨g, k * 12 + 3, none⟩ = some (.int .i64 i.red) ∧ W.cell? ⟨g, k * 12 + 4, none⟩ = some (.int .i64 i.size) ∧ W.cell? ⟨g, k * 12 + 5, none⟩ = some (.slice a9 ns cs) ∧ W.cell? ⟨g, k * 12 + 6, none⟩ = some (.slice av nv cv) ∧ W.cell? ⟨g, k * 12 + 7, none⟩ = some (.bool i.done) ∧ W.cell? ⟨g, k * 12 + 8, none⟩ = some (.bool i.gone) ∧ W.cell? ⟨g, k * 12 + 9, none⟩ = some (.bool i.heard) ∧ W.cell? ⟨g, k * 12 + 10, none⟩ = some (.bool i.shut) ∧ W.cell? ⟨g, k * 12 + 11, none⟩ = some (.int .i64 i.how) ∧ W.cell? ⟨g2, k * 12, none⟩ = some (.int .i64 i.org) ∧ W.cell? ⟨g2, k * 12 + 1, none⟩ = some (.int .i64 i.num) ∧ W.cell? ⟨g2, k * 12 + 2, none⟩ = some (.int .i64 i.srv) ∧ W.cell? ⟨g2, k * 12 + 3, none⟩ = some (.int .i64 i.red) ∧ W.cell? ⟨g2, k * 12 + 4, none⟩ = some (.int .i64 i.size) ∧ W.cell? ⟨g2, k * 12 + 5, none⟩ = some (.slice b9 ns ds) ∧ W.cell? ⟨g2, k * 12 + 6, none⟩ = some (.slice bv nv dv) ∧ W.cell? ⟨g2, k * 12 + 7, none⟩ = some (.bool i.done) ∧ W.cell? ⟨g2, k * 12 + 8, none⟩ = some (.bool i.gone) ∧ W.cell? ⟨g2, k * 12 + 9, none⟩ = some (.bool i.heard) ∧ W.cell? ⟨g2, k * 12 + 10, none⟩ = some (.bool i.shut) ∧ W.cell? ⟨g2, k * 12 + 11, none⟩ = some (.int .i64 i.how)) := fun W hW => by
            obtain ⟨_, _, _, u3, u4, u5, _, _, _, t3, t4, t5⟩ := HC.out W (HB.out.trans (hW.mono HB.out.size))
            have r1 := own_at r1' (fun g hg => hW.block g (World.ownsRow.lt r1' g hg).2)
            have r2 := own_at r2' (fun g hg => hW.block g (World.ownsRow.lt r2' g hg).2)
            exact ⟨u4, t4, own_cell12 r1 hy1 (j := 0) (by decide) rfl, own_cell12 r1 hy1 (j := 1) (by decide) rfl, own_cell12 r1 hy1 (j := 2) (by decide) rfl, own_cell12 r1 hy1 (j := 3) (by decide) rfl, own_cell12 r1 hy1 (j := 4) (by decide) rfl, own_cell12 r1 hy1 (j := 5) (by decide) rfl, own_cell12 r1 hy1 (j := 6) (by decide) rfl, own_cell12 r1 hy1 (j := 7) (by decide) rfl, own_cell12 r1 hy1 (j := 8) (by decide) rfl, own_cell12 r1 hy1 (j := 9) (by decide) rfl, own_cell12 r1 hy1 (j := 10) (by decide) rfl, own_cell12 r1 hy1 (j := 11) (by decide) rfl, own_cell12 r2 hy2 (j := 0) (by decide) rfl, own_cell12 r2 hy2 (j := 1) (by decide) rfl, own_cell12 r2 hy2 (j := 2) (by decide) rfl, own_cell12 r2 hy2 (j := 3) (by decide) rfl, own_cell12 r2 hy2 (j := 4) (by decide) rfl, own_cell12 r2 hy2 (j := 5) (by decide) rfl, own_cell12 r2 hy2 (j := 6) (by decide) rfl, own_cell12 r2 hy2 (j := 7) (by decide) rfl, own_cell12 r2 hy2 (j := 8) (by decide) rfl, own_cell12 r2 hy2 (j := 9) (by decide) rfl, own_cell12 r2 hy2 (j := 10) (by decide) rfl, own_cell12 r2 hy2 (j := 11) (by decide) rfl⟩
          have HC0 := HS.out wr (Below.refl _ _)
          obtain ⟨_, _, _, _, h1, _, _, _, _, _, h2, _⟩ := HC.out wr HB.out
          clear s1 s2 hb0 hbw r1' r2' e1 e2 z1 z2 y1 y2 hsw m1 m2 hy1 hy2
          go_wp2_with fail
          clear h1 h2
          go_region_held3 (fun V => V.cell? ⟨x, 4, none⟩ = some (.slice (some ⟨g, 0, none⟩) ni ci) ∧ V.cell? ⟨x + 1, 4, none⟩ = some (.slice (some ⟨g2, 0, none⟩) ni cj) ∧ V.cell? ⟨g, k * 12, none⟩ = some (.int .i64 i.org) ∧ V.cell? ⟨g, k * 12 + 1, none⟩ = some (.int .i64 i.num) ∧ V.cell? ⟨g, k * 12 + 2, none⟩ = some (.int .i64 i.srv) ∧ V.cell? ⟨g, k * 12 + 3, none⟩ = some (.int .i64 i.red) ∧ V.cell? ⟨g, k * 12 + 4, none⟩ = some (.int .i64 i.size) ∧ V.cell? ⟨g, k * 12 + 5, none⟩ = some (.slice a9 ns cs) ∧ V.cell? ⟨g, k * 12 + 6, none⟩ = some (.slice av nv cv) ∧ V.cell? ⟨g, k * 12 + 7, none⟩ = some (.bool i.done) ∧ V.cell? ⟨g, k * 12 + 8, none⟩ = some (.bool i.gone) ∧ V.cell? ⟨g, k * 12 + 9, none⟩ = some (.bool i.heard) ∧ V.cell? ⟨g, k * 12 + 10, none⟩ = some (.bool i.shut) ∧ V.cell? ⟨g, k * 12 + 11, none⟩ = some (.int .i64 i.how) ∧ V.cell? ⟨g2, k * 12, none⟩ = some (.int .i64 i.org) ∧ V.cell? ⟨g2, k * 12 + 1, none⟩ = some (.int .i64 i.num) ∧ V.cell? ⟨g2, k * 12 + 2, none⟩ = some (.int .i64 i.srv) ∧ V.cell? ⟨g2, k * 12 + 3, none⟩ = some (.int .i64 i.red) ∧ V.cell? ⟨g2, k * 12 + 4, none⟩ = some (.int .i64 i.size) ∧ V.cell? ⟨g2, k * 12 + 5, none⟩ = some (.slice b9 ns ds) ∧ V.cell? ⟨g2, k * 12 + 6, none⟩ = some (.slice bv nv dv) ∧ V.cell? ⟨g2, k * 12 + 7, none⟩ = some (.bool i.done) ∧ V.cell? ⟨g2, k * 12 + 8, none⟩ = some (.bool i.gone) ∧ V.cell? ⟨g2, k * 12 + 9, none⟩ = some (.bool i.heard) ∧ V.cell? ⟨g2, k * 12 + 10, none⟩ = some (.bool i.shut) ∧ V.cell? ⟨g2, k * 12 + 11, none⟩ = some (.int .i64 i.how))
            (first | exact HC0 | exact HCU.out)
            (first
              | (go_at_call 68
                 refine hcall.mono ?_
                 rintro e U ⟨rfl, hU⟩
                 have hU' : Below wr.heap.size wr U := ⟨hU.os, hU.tape, hU.output, hU.size, hU.block⟩
                 have HCU : Hid (U.cell? ⟨x, 4, none⟩ = some (.slice (some ⟨g, 0, none⟩) ni ci) ∧ U.cell? ⟨x + 1, 4, none⟩ = some (.slice (some ⟨g2, 0, none⟩) ni cj) ∧ U.cell? ⟨g, k * 12, none⟩ = some (.int .i64 i.org) ∧ U.cell? ⟨g, k * 12 + 1, none⟩ = some (.int .i64 i.num) ∧ U.cell? ⟨g, k * 12 + 2, none⟩ = some (.int .i64 i.srv) ∧ U.cell? ⟨g, k * 12 + 3, none⟩ = some (.int .i64 i.red) ∧ U.cell? ⟨g, k * 12 + 4, none⟩ = some (.int .i64 i.size) ∧ U.cell? ⟨g, k * 12 + 5, none⟩ = some (.slice a9 ns cs) ∧ U.cell? ⟨g, k * 12 + 6, none⟩ = some (.slice av nv cv) ∧ U.cell? ⟨g, k * 12 + 7, none⟩ = some (.bool i.done) ∧ U.cell? ⟨g, k * 12 + 8, none⟩ = some (.bool i.gone) ∧ U.cell? ⟨g, k * 12 + 9, none⟩ = some (.bool i.heard) ∧ U.cell? ⟨g, k * 12 + 10, none⟩ = some (.bool i.shut) ∧ U.cell? ⟨g, k * 12 + 11, none⟩ = some (.int .i64 i.how) ∧ U.cell? ⟨g2, k * 12, none⟩ = some (.int .i64 i.org) ∧ U.cell? ⟨g2, k * 12 + 1, none⟩ = some (.int .i64 i.num) ∧ U.cell? ⟨g2, k * 12 + 2, none⟩ = some (.int .i64 i.srv) ∧ U.cell? ⟨g2, k * 12 + 3, none⟩ = some (.int .i64 i.red) ∧ U.cell? ⟨g2, k * 12 + 4, none⟩ = some (.int .i64 i.size) ∧ U.cell? ⟨g2, k * 12 + 5, none⟩ = some (.slice b9 ns ds) ∧ U.cell? ⟨g2, k * 12 + 6, none⟩ = some (.slice bv nv dv) ∧ U.cell? ⟨g2, k * 12 + 7, none⟩ = some (.bool i.done) ∧ U.cell? ⟨g2, k * 12 + 8, none⟩ = some (.bool i.gone) ∧ U.cell? ⟨g2, k * 12 + 9, none⟩ = some (.bool i.heard) ∧ U.cell? ⟨g2, k * 12 + 10, none⟩ = some (.bool i.shut) ∧ U.cell? ⟨g2, k * 12 + 11, none⟩ = some (.int .i64 i.how)) := HS.out _ hU'
                 have HBU : Hid (Below V.heap.size V U) := HB.out.trans (hU'.mono HB.out.size)))
          all_goals (
            clear hcall HC0
            go_wp2
            go_roundw
            case rel => exact ⟨k + 1, by omega, by go_num, HBU⟩
            case measure => simp [intOf]; omega)
        · have hlt' : ¬ (k : Int) < (ni : Int) := by omega
          obtain ⟨_, _, _, _, h1, _, _, _, _, _, h2, _⟩ := HC.out wr HB.out
          go_upto_region 16 with fail
          clear h1 h2
          go_loopw [9] (fun s5 wr => ∃ k : Nat, k ≤ nt ∧ s5 = .int .i64 k ∧ Hid (Below V.heap.size V wr)) (fun s5 _ => nt - (intOf s5).toNat)
          case atStart => exact ⟨0, by omega, rfl, HB⟩
          case round =>
            obtain ⟨k, hk, rfl, HB9⟩ := hrel
            clear HB
            have HB := HB9
            clear HB9
            by_cases hlt : k < nt
            · have hlt' : (k : Int) < (nt : Int) := by omega
              have h0k : 0 ≤ (k : Int) := by omega
              have hwk : IntKind.i64.wrap ((k : Int) + 1) = (k : Int) + 1 := by rw [IntKind.wrap_i64]; omega
              have hbw := HB0.out.trans (HB.out.mono HB0.out.size)
              have s1 := HA.out.1.below hbw
              have s2 := HA.out.2.below hbw
              have hb0 : Below wr.heap.size wr wr.drew := (Below.refl _ _).drew
              obtain ⟨⟨t, z1⟩, hy1⟩ := get_some R k (by have := HN.out.2.2.1; omega)
              obtain ⟨⟨t2, z2⟩, hy2⟩ := get_some R2 k (by have := HN.out.2.2.2.2.2; omega)
              obtain rfl : t = t2 := same_at HM.out.1.2.2 hy1 hy2
              have m1 := List.mem_of_getElem? hy1
              have m2 := List.mem_of_getElem? hy2
              obtain ⟨a9, ns, cs, rfl⟩ := own_sl8 (s1.pt _ m1)
              obtain ⟨b9, ns2, ds, rfl⟩ := own_sl8 (s2.pt _ m2)
              have z1 := so_spa (s1.pt _ m1)
              have z2 := so_spa (s2.pt _ m2)
              have hsw := HM.out.2.2.2 _ m1
              simp only at z1 z2 hsw
              obtain rfl : ns = ns2 := z1.2.symm.trans z2.2
              have hcall := sameSpans8_eq a9 b9 cs ds ns t.2 wr.drew z1.2 (by rw [z1.2] at hsw; omega) (z1.1.below hb0) (z2.1.below hb0)
              have r1' := s1.rt
              have r2' := s2.rt
              have e1 := own_len8 r1'
              have e2 := own_len8 r2'
              rw [← e1] at r1'
              rw [← e2] at r2'
              obtain ⟨g, cp1, eg, _, _⟩ := World.ownsRow.form r1' (by omega)
              obtain ⟨g2, cp2, eg2, _, _⟩ := World.ownsRow.form r2' (by omega)
              cases eg
              cases eg2
              have HS : Hid (∀ W : World, Below wr.heap.size wr W → W.cell? ⟨x, 5, none⟩ = some (.slice (some ⟨g, 0, none⟩) nt ct) ∧ W.cell? ⟨x + 1, 5, none⟩ = some (.slice (some ⟨g2, 0, none⟩) nt cu) ∧ W.cell? ⟨g, k * 2, none⟩ = some (.int .i64 t.1) ∧ W.cell? ⟨g, k * 2 + 1, none⟩ = some (.slice a9 ns cs) ∧ W.cell? ⟨g2, k * 2, none⟩ = some (.int .i64 t.1) ∧ W.cell? ⟨g2, k * 2 + 1, none⟩ = some (.slice b9 ns ds)) := fun W hW => by
                obtain ⟨_, _, _, u3, u4, u5, _, _, _, t3, t4, t5⟩ := HC.out W (HB.out.trans (hW.mono HB.out.size))
                have r1 := own_at r1' (fun g hg => hW.block g (World.ownsRow.lt r1' g hg).2)
                have r2 := own_at r2' (fun g hg => hW.block g (World.ownsRow.lt r2' g hg).2)
                exact ⟨u5, t5, own_cell2 r1 hy1 (j := 0) (by decide) rfl, own_cell2 r1 hy1 (j := 1) (by decide) rfl, own_cell2 r2 hy2 (j := 0) (by decide) rfl, own_cell2 r2 hy2 (j := 1) (by decide) rfl⟩
              have HC0 := HS.out wr (Below.refl _ _)
              obtain ⟨_, _, _, _, _, h1, _, _, _, _, _, h2⟩ := HC.out wr HB.out
              clear s1 s2 hb0 hbw r1' r2' e1 e2 z1 z2 hsw m1 m2 hy1 hy2
              go_wp2_with fail
              clear h1 h2
              go_region_held3 (fun V => V.cell? ⟨x, 5, none⟩ = some (.slice (some ⟨g, 0, none⟩) nt ct) ∧ V.cell? ⟨x + 1, 5, none⟩ = some (.slice (some ⟨g2, 0, none⟩) nt cu) ∧ V.cell? ⟨g, k * 2, none⟩ = some (.int .i64 t.1) ∧ V.cell? ⟨g, k * 2 + 1, none⟩ = some (.slice a9 ns cs) ∧ V.cell? ⟨g2, k * 2, none⟩ = some (.int .i64 t.1) ∧ V.cell? ⟨g2, k * 2 + 1, none⟩ = some (.slice b9 ns ds))
                (first | exact HC0 | exact HCU.out)
                (first
                  | (go_at_call 60
                     refine hcall.mono ?_
                     rintro e U ⟨rfl, nd, hUe⟩
                     have hU' : Below wr.heap.size wr U := by rw [hUe]; exact ⟨rfl, rfl, rfl, Nat.le_refl _, fun _ _ => rfl⟩
                     clear hUe
                     have HCU : Hid (U.cell? ⟨x, 5, none⟩ = some (.slice (some ⟨g, 0, none⟩) nt ct) ∧ U.cell? ⟨x + 1, 5, none⟩ = some (.slice (some ⟨g2, 0, none⟩) nt cu) ∧ U.cell? ⟨g, k * 2, none⟩ = some (.int .i64 t.1) ∧ U.cell? ⟨g, k * 2 + 1, none⟩ = some (.slice a9 ns cs) ∧ U.cell? ⟨g2, k * 2, none⟩ = some (.int .i64 t.1) ∧ U.cell? ⟨g2, k * 2 + 1, none⟩ = some (.slice b9 ns ds)) := HS.out _ hU'
                     have HBU : Hid (Below V.heap.size V U) := HB.out.trans (hU'.mono HB.out.size)))
              all_goals (
                clear hcall HC0
                obtain ⟨e1, e2, e3, e4, e5, e6⟩ := HCU.out
                go_wp2_with fail
                go_quiet (fail)
                go_wp2
                go_roundw
                case rel => exact ⟨k + 1, by omega, by go_num, ⟨HBU.out.os, HBU.out.tape, HBU.out.output, HBU.out.size, HBU.out.block⟩⟩
                case measure => simp [intOf]; omega)
            · have hlt' : ¬ (k : Int) < (nt : Int) := by omega
              obtain ⟨_, _, _, _, _, h1, _, _, _, _, _, h2⟩ := HC.out wr HB.out
              go_wp2
              go_ret
              exact ⟨rfl, HB0.out.trans (HB.out.mono HB0.out.size)⟩
end Go.Proofs.YtillgoegiplmkaaGreatDoor.B
