import Derived.Test.YtnclfoljfnfglaiTmRn
namespace Go.Proofs.Ytnclfoljfnfglai
open Go.RowKit Go.Maps
set_option linter.unusedVariables false

/-! ## The reference's table: a list of timers, a list of peers -/
def tV (x : Kx × Int) : List Value := kV x.1 ++ [.int .i64 x.2]
def TR (w : World) (base : Nat) (v : Value) (R : Tl) : Prop := w.ownsRow base 90 6 v R.length (R.flatMap tV)
theorem tv_get (l : Tl) (i : Nat) (c : Kx × Int) (h : l[i]? = some c) (j : Nat) (u : Value) (hj : (tV c)[j]? = some u) : (l.flatMap tV)[i * 6 + j]? = some u := by
  have hj6 : j < 6 := by have := (List.getElem?_eq_some_iff.mp hj).1; simpa [tV, kV] using this
  induction l generalizing i with
  | nil => simp at h
  | cons s r ih =>
    cases i with
    | zero =>
      simp at h
      subst h
      rw [List.flatMap_cons, List.getElem?_append_left (by simp [tV, kV]; omega)]
      simpa using hj
    | succ i =>
      simp at h
      have := ih i h
      rw [List.flatMap_cons, List.getElem?_append_right (by simp [tV, kV]; omega)]
      rw [show (i + 1) * 6 + j - (tV s).length = i * 6 + j by simp [tV, kV]; omega]
      exact this
theorem TR.keep {S : Nat → Prop} {w w' : World} {base : Nat} {v : Value} {l : Tl} (h : TR w base v l) (hk : Kq S w w') (hs : ∀ g, v.ownBlock = some g → ¬ S g) : TR w' base v l := by
  have hlt := World.ownsRow.lt h
  obtain ⟨h1, h2⟩ := h
  refine ⟨h1, ?_⟩
  rcases h2 with h2 | ⟨g, cap, cur, rfl, hg, hh, r⟩
  · exact .inl h2
  · exact .inr ⟨g, cap, cur, rfl, hg, (hk.block g (hlt g rfl).2 (hs g rfl)).trans hh, r⟩
theorem TR.some {w : World} {base : Nat} {v : Value} {l : Tl} (h : TR w base v l) (hn : 0 < l.length) : ∃ g cap, v = .slice (some ⟨g, 0, none⟩) l.length cap ∧ base ≤ g ∧ g < w.heap.size := by
  obtain ⟨_, ⟨rfl, h0⟩ | ⟨g, cap, cur, rfl, hb, hg, hc, _⟩⟩ := h
  · omega
  · exact ⟨g, cap, rfl, hb, (Array.getElem?_eq_some_iff.mp hg).1⟩
theorem TR.shape {w : World} {base : Nat} {v : Value} {l : Tl} (h : TR w base v l) : ∃ a cap, v = .slice a l.length cap := by
  obtain ⟨_, ⟨rfl, h0⟩ | ⟨g, cap, cur, rfl, _⟩⟩ := h
  · exact ⟨none, 0, by rw [h0]⟩
  · exact ⟨_, cap, rfl⟩
theorem TR.cells {w : World} {base g n cap : Nat} {l : Tl} (h : TR w base (.slice (Option.some ⟨g, 0, none⟩) n cap) l) {i : Nat} {c : Kx × Int} (hc : l[i]? = Option.some c) :
    w.cell? ⟨g, i * 6, none⟩ = Option.some (.int .i64 c.1.1) ∧ w.cell? ⟨g, i * 6 + 1, none⟩ = Option.some (.int .i64 c.1.2.1) ∧ w.cell? ⟨g, i * 6 + 2, none⟩ = Option.some (.int .i64 c.1.2.2.1) ∧ w.cell? ⟨g, i * 6 + 3, none⟩ = Option.some (.int .i64 c.1.2.2.2.1) ∧ w.cell? ⟨g, i * 6 + 4, none⟩ = Option.some (.int .i64 c.1.2.2.2.2) ∧ w.cell? ⟨g, i * 6 + 5, none⟩ = Option.some (.int .i64 c.2) := by
  have hi : i < l.length := (List.getElem?_eq_some_iff.mp hc).1
  have hn : n = l.length := by
    obtain ⟨_, ⟨e, _⟩ | ⟨g', cap', cur, e, _⟩⟩ := h
    · cases e
    · cases e; rfl
  subst hn
  have q := tv_get l i c hc
  exact ⟨(World.ownsRow.cellAt h _ (by omega)).trans (q 0 _ rfl), (World.ownsRow.cellAt h _ (by omega)).trans (q 1 _ rfl), (World.ownsRow.cellAt h _ (by omega)).trans (q 2 _ rfl), (World.ownsRow.cellAt h _ (by omega)).trans (q 3 _ rfl), (World.ownsRow.cellAt h _ (by omega)).trans (q 4 _ rfl), (World.ownsRow.cellAt h _ (by omega)).trans (q 5 _ rfl)⟩
/-- What a call that began at w may own behind it. -/
def grF (Fp : Nat → Prop) (w w' : World) : Nat → Prop := fun g => Fp g ∨ (w.heap.size ≤ g ∧ g < w'.heap.size)
/-- The reference's table in memory: the rows that it holds are of Fp. -/
structure Rf (w : World) (pr : Nat) (Fp : Nat → Prop) (R : Tl) (Hs : List Int) : Prop where
  ex : ∃ vl vh, w.heap[pr]? = some (.cells #[vl, vh] 85 (0, 0)) ∧ TR w (pr + 1) vl R ∧ IR w (pr + 1) vh Hs ∧
    (∀ g, vl.ownBlock = some g → vh.ownBlock ≠ some g) ∧ (∀ g, vl.ownBlock = some g → Fp g) ∧ (∀ g, vh.ownBlock = some g → Fp g)
theorem Rf.lt {w : World} {pr : Nat} {Fp : Nat → Prop} {R : Tl} {Hs : List Int} (h : Rf w pr Fp R Hs) : pr < w.heap.size := by
  obtain ⟨_, _, h1, _⟩ := h.ex
  exact (Array.getElem?_eq_some_iff.1 h1).1
theorem Rf.keep {S : Nat → Prop} {w w' : World} {pr : Nat} {Fp : Nat → Prop} {R : Tl} {Hs : List Int} (h : Rf w pr Fp R Hs) (hk : Kq S w w') (hs : ∀ g, S g → g ≠ pr ∧ ¬ Fp g) : Rf w' pr Fp R Hs := by
  have hl := h.lt
  obtain ⟨vk, vl, h1, h2, h3, h4, h5, h6⟩ := h.ex
  exact ⟨vk, vl, (hk.block pr hl (fun e => (hs pr e).1 rfl)).trans h1, h2.keep hk (fun g hg e => (hs g e).2 (h5 g hg)), IR.keep h3 hk (fun g hg e => (hs g e).2 (h6 g hg)), h4, h5, h6⟩
theorem Rf.more {w : World} {pr : Nat} {Fp Fq : Nat → Prop} {R : Tl} {Hs : List Int} (h : Rf w pr Fp R Hs) (hs : ∀ g, Fp g → g < w.heap.size → Fq g) : Rf w pr Fq R Hs := by
  obtain ⟨vk, vl, h1, h2, h3, h4, h5, h6⟩ := h.ex
  exact ⟨vk, vl, h1, h2, h3, h4, fun g hg => hs g (h5 g hg) (World.ownsRow.lt h2 g hg).2, fun g hg => hs g (h6 g hg) (World.ownsRow.lt h3 g hg).2⟩

set_option maxHeartbeats 2000000 in
set_option maxRecDepth 100000 in
/-- The reference's order of keys. -/
theorem before_any (x y : Kx) (w : World) :
    Calls Try.prog 64 #[kA x, kA y] w fun e w' => e = .returned (.bool (ltK x y)) ∧ Below w.heap.size w w' := by
  obtain ⟨x0, x1, x2, x3, x4⟩ := x
  obtain ⟨y0, y1, y2, y3, y4⟩ := y
  have HB : Hid (Below w.heap.size w ((w.alloc (kO (x0, x1, x2, x3, x4))).alloc (kO (y0, y1, y2, y3, y4)))) := ((Below.refl w.heap.size w).alloc (Nat.le_refl _) _).alloc (by simp) _
  by_cases h0 : x0 = y0
  · by_cases h1 : x1 = y1
    · by_cases h2 : x2 = y2
      · by_cases h3 : x3 = y3
        · have HL : Hid (ltK (x0, x1, x2, x3, x4) (y0, y1, y2, y3, y4) = decide (x4 < y4)) := lt_at (.inr (.inr (.inr (.inr ⟨h0, h1, h2, h3, rfl⟩))))
          rw [HL.out]
          subst h0 h1 h2 h3
          go_enter Try.func64, Try.ntmps64
          go_wp2
          go_ret
          exact ⟨rfl, HB.out⟩
        · have HL : Hid (ltK (x0, x1, x2, x3, x4) (y0, y1, y2, y3, y4) = decide (x3 < y3)) := lt_at (.inr (.inr (.inr (.inl ⟨h0, h1, h2, h3, rfl⟩))))
          rw [HL.out]
          subst h0 h1 h2
          go_enter Try.func64, Try.ntmps64
          go_wp2
          go_ret
          exact ⟨rfl, HB.out⟩
      · have HL : Hid (ltK (x0, x1, x2, x3, x4) (y0, y1, y2, y3, y4) = decide (x2 < y2)) := lt_at (.inr (.inr (.inl ⟨h0, h1, h2, rfl⟩)))
        rw [HL.out]
        subst h0 h1
        go_enter Try.func64, Try.ntmps64
        go_wp2
        go_ret
        exact ⟨rfl, HB.out⟩
    · have HL : Hid (ltK (x0, x1, x2, x3, x4) (y0, y1, y2, y3, y4) = decide (x1 < y1)) := lt_at (.inr (.inl ⟨h0, h1, rfl⟩))
      rw [HL.out]
      subst h0
      go_enter Try.func64, Try.ntmps64
      go_wp2
      go_ret
      exact ⟨rfl, HB.out⟩
  · have HL : Hid (ltK (x0, x1, x2, x3, x4) (y0, y1, y2, y3, y4) = decide (x0 < y0)) := lt_at (.inl ⟨h0, rfl⟩)
    rw [HL.out]
    go_enter Try.func64, Try.ntmps64
    go_wp2
    go_ret
    exact ⟨rfl, HB.out⟩

/-- Where the timer of a key is. -/
def fnd (R : Tl) (k : Kx) (i : Nat) : Prop := (∃ c, R[i]? = some (k, c)) ∧ ∀ j, j < i → ∀ c, R[j]? ≠ some (k, c)
/-- There is none. -/
def nof (R : Tl) (k : Kx) : Prop := k ∉ R.map Prod.fst
set_option maxHeartbeats 4000000 in
set_option maxRecDepth 100000 in
theorem find_any (pr : Nat) (Fp : Nat → Prop) (R : Tl) (Hs : List Int) (k : Kx) (w : World) (h : Rf w pr Fp R Hs) (hl : R.length < 2199023255552) (hw : ∀ x ∈ R, kW x.1) (hk : kW k) :
    Calls Try.prog 63 #[.pointer (some ⟨pr, 0, none⟩), kA k] w fun e w' => ((∃ i : Nat, e = .returned (.int .i64 i) ∧ fnd R k i) ∨ (e = .returned (.int .i64 (-1)) ∧ nof R k)) ∧ Below w.heap.size w w' := by
  obtain ⟨vk, vl, h1, h2, h3, h4, _⟩ := h.ex
  obtain ⟨ak, ck, rfl⟩ := h2.shape
  obtain ⟨m, hm⟩ : ∃ m, R.length = m := ⟨_, rfl⟩
  rw [hm] at h1 h2 hl
  have hlt := h.lt
  obtain ⟨k0, k1, k2, k3, k4⟩ := k
  obtain ⟨W, hW⟩ : ∃ W, w.alloc (kO (k0, k1, k2, k3, k4)) = W := ⟨_, rfl⟩
  have hbW : Below w.heap.size w W := by rw [← hW]; exact (Below.refl _ _).alloc (Nat.le_refl _) _
  have HB : Hid (Below w.heap.size w W) := hbW
  have c5 : W.cell? ⟨pr, 0, none⟩ = some (.slice ak m ck) := by
    have h8 : w.cell? ⟨pr, 0, none⟩ = some (.slice ak m ck) := by simp [World.cell?, h1]
    exact (hbW.cell (p := ⟨pr, 0, none⟩) hlt).trans h8
  have HC : Hid (W.cell? ⟨w.heap.size, 0, none⟩ = some (.int .i64 k0) ∧ W.cell? ⟨w.heap.size, 1, none⟩ = some (.int .i64 k1) ∧ W.cell? ⟨w.heap.size, 2, none⟩ = some (.int .i64 k2) ∧ W.cell? ⟨w.heap.size, 3, none⟩ = some (.int .i64 k3) ∧ W.cell? ⟨w.heap.size, 4, none⟩ = some (.int .i64 k4)) :=
    ⟨by rw [← hW]; simp, by rw [← hW]; simp, by rw [← hW]; simp, by rw [← hW]; simp, by rw [← hW]; simp⟩
  have HT : Hid (TR W (pr + 1) (.slice ak m ck) R) := h2.keep (S := fun _ => False) (Kq.of_below hbW) (fun _ _ h => h)
  have HM : Hid (R.length = m) := hm
  have HWf : Hid (∀ x ∈ R, kW x.1) := hw
  clear h h1 h2 h3 h4 hm hw hbW
  go_enter Try.func63, Try.ntmps63
  go_wp2
  clear hW
  go_loopw [5] (fun v wr => ∃ i : Nat, v = .int .i64 i ∧ i ≤ m ∧ (∃ q, wr = W.drewN q) ∧ ∀ j, j < i → ∀ c, R[j]? ≠ some ((k0, k1, k2, k3, k4), c))
    (fun v _ => m - (intOf v).toNat)
  case atStart => exact ⟨0, rfl, by omega, ⟨0, rfl⟩, fun j hj => by omega⟩
  case round =>
    obtain ⟨i, rfl, hi, ⟨q, rfl⟩, hno⟩ := hrel
    have HNo : Hid (∀ j, j < i → ∀ c, R[j]? ≠ some ((k0, k1, k2, k3, k4), c)) := hno
    clear hno
    by_cases him : i = m
    · subst him
      have hz : ¬ (i : Int) < (i : Int) := by omega
      go_wp2
      go_ret
      refine ⟨.inr ⟨rfl, fun e => ?_⟩, below_drewN HB.out _⟩
      obtain ⟨⟨x, c⟩, hx, e1⟩ := List.mem_map.mp e
      obtain ⟨j, hj⟩ := List.getElem?_of_mem hx
      have e2 : x = (k0, k1, k2, k3, k4) := e1
      subst e2
      exact HNo.out j (by have := (List.getElem?_eq_some_iff.mp hj).1; rw [HM.out] at this; exact this) c hj
    · have hz : (i : Int) < (m : Int) := by omega
      have hwi : IntKind.i64.wrap ((i : Int) + 1) = (i : Int) + 1 := by rw [IntKind.wrap_i64]; omega
      obtain ⟨⟨x, c⟩, hx⟩ : ∃ x, R[i]? = some x := ⟨_, List.getElem?_eq_getElem (by rw [HM.out]; omega)⟩
      have hkx := HWf.out _ (List.mem_of_getElem? hx)
      obtain ⟨gk, capk, ek, _, _⟩ := HT.out.some (by rw [HM.out]; omega)
      obtain ⟨rfl, hmm, rfl⟩ : ak = some ⟨gk, 0, none⟩ ∧ m = R.length ∧ ck = capk := by simpa using ek
      obtain ⟨x0, x1, x2, x3, x4⟩ := x
      obtain ⟨q0, q1, q2, q3, q4, q5⟩ := HT.out.cells hx
      obtain ⟨c0, c1, c2, c3, c4⟩ := HC.out
      simp only at q0 q1 q2 q3 q4 q5 hkx
      have heq := fun w => eql_key hkx hk w
      have hg := eqGuard51
      obtain ⟨bq, hbq⟩ : ∃ b, decide (((x0, x1, x2, x3, x4) : Kx) = (k0, k1, k2, k3, k4)) = b := ⟨_, rfl⟩
      rw [hbq] at heq
      have HBq : Hid (decide (((x0, x1, x2, x3, x4) : Kx) = (k0, k1, k2, k3, k4)) = bq) := hbq
      have HX : Hid (R[i]? = some ((x0, x1, x2, x3, x4), c)) := hx
      clear hx ek hmm hbq hkx
      go_wp2_with fail
      go_quiet (fail)
      cases bq with
      | false =>
        go_wp2
        have hne := of_decide_eq_false HBq.out
        refine ⟨⟨i + 1, by simp, by omega, ⟨q + nq, rfl⟩, fun j hj c' e => ?_⟩, by simp [intOf]; omega⟩
        by_cases ej : j = i
        · subst ej; rw [HX.out] at e; exact hne (by have := Option.some.inj e; exact (Prod.mk.inj this).1)
        · exact HNo.out j (by omega) c' e
      | true =>
        have hke := of_decide_eq_true HBq.out
        go_wp2
        refine bodyPost_ret (results_tmp rfl _ _ _) rfl ?_
        exact ⟨.inl ⟨i, rfl, ⟨c, by rw [HX.out, hke]⟩, HNo.out⟩, below_drewN (below_drewN HB.out _) _⟩

set_option maxHeartbeats 4000000 in
set_option maxRecDepth 100000 in
theorem held2_any (pr : Nat) (Fp : Nat → Prop) (R : Tl) (Hs : List Int) (p : Int) (w : World) (h : Rf w pr Fp R Hs) (hl : Hs.length < 2199023255552) :
    Calls Try.prog 67 #[.pointer (some ⟨pr, 0, none⟩), .int .i64 p] w fun e w' => e = .returned (.bool (decide (p ∈ Hs))) ∧ w' = w := by
  obtain ⟨vk, vl, h1, h2, h3, h4, _⟩ := h.ex
  obtain ⟨al, cl, rfl⟩ := IR.shape h3
  obtain ⟨m, hm⟩ : ∃ m, Hs.length = m := ⟨_, rfl⟩
  have HM : Hid (Hs.length = m) := hm
  rw [hm] at h1 h3 hl
  have c5 : w.cell? ⟨pr, 1, none⟩ = some (.slice al m cl) := by simp [World.cell?, h1]
  have HI : Hid (IR w (pr + 1) (.slice al m cl) Hs) := h3
  clear h h1 h2 h3 h4 hm
  go_enter Try.func67, Try.ntmps67
  go_wp2
  go_loopw [5] (fun v wr => ∃ i : Nat, v = .int .i64 i ∧ i ≤ m ∧ wr = w ∧ p ∉ Hs.take i) (fun v _ => m - (intOf v).toNat)
  case atStart => exact ⟨0, rfl, by omega, rfl, by simp⟩
  case round =>
    obtain ⟨i, rfl, hi, rfl, hno⟩ := hrel
    have HNo : Hid (p ∉ Hs.take i) := hno
    clear hno
    by_cases him : i = m
    · subst him
      have hz : ¬ (i : Int) < (i : Int) := by omega
      have HF : Hid (decide (p ∈ Hs) = false) := decide_eq_false (by have := HNo.out; rw [← HM.out, List.take_length] at this; exact this)
      go_wp2
      go_ret
      exact ⟨congrArg (fun b => Ending.returned (Value.bool b)) HF.out.symm, by first | rfl | trivial⟩
    · have hz : (i : Int) < (m : Int) := by omega
      have hwi : IntKind.i64.wrap ((i : Int) + 1) = (i : Int) + 1 := by rw [IntKind.wrap_i64]; omega
      obtain ⟨x, hx⟩ : ∃ x, Hs[i]? = some x := ⟨_, List.getElem?_eq_getElem (by rw [HM.out]; omega)⟩
      obtain ⟨gl, capl, el, _, _⟩ := IR.some HI.out (by rw [HM.out]; omega)
      obtain ⟨rfl, hmm, rfl⟩ : al = some ⟨gl, 0, none⟩ ∧ m = Hs.length ∧ cl = capl := by simpa using el
      have q0 := IR.cell HI.out hx
      have HX : Hid (Hs[i]? = some x) := hx
      clear hx el hmm
      by_cases hxp : x = p
      · subst hxp
        have HF : Hid (decide (x ∈ Hs) = true) := decide_eq_true (List.mem_of_getElem? HX.out)
        go_wp2
        refine bodyPost_ret (results_tmp rfl _ _ _) rfl ?_
        exact ⟨congrArg (fun b => Ending.returned (Value.bool b)) HF.out.symm, by first | rfl | trivial⟩
      · go_wp2
        refine ⟨⟨i + 1, by simp, by omega, by first | rfl | trivial, ?_⟩, by simp [intOf]; omega⟩
        rw [List.take_add_one, HX.out]
        simp [HNo.out, Ne.symm hxp]

end Go.Proofs.Ytnclfoljfnfglai
