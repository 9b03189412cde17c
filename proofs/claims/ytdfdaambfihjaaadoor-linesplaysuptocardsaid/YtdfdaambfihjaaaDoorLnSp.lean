import Derived.Test.YtdfdaambfihjaaaDoorLnCp
import Derived.Test.YtdfdaambfihjaaaDoorLs2
import Derived.Test.YtdfdaambfihjaaaDoorLnPa
import Derived.Test.YtdfdaambfihjaaaDoorLnAk
namespace Go.Proofs.YtdfdaambfihjaaaDoor.L
open Go.RowKit
set_option linter.unusedVariables false
set_option linter.unusedSimpArgs false

/-! ## A segment that was lent is written over -/
def Ty (W : World) (g : Nat) (t : TypeId) (s : Nat) : Prop := ∃ cs : Array Value, W.heap[g]? = some (.cells cs t (0, 0)) ∧ cs.size = s
theorem Ty.set {W : World} {g s : Nat} {t : TypeId} (h : Ty W g t s) (k o : Nat) (u : Value) : Ty (W.setCell ⟨k, o, none⟩ u) g t s := by
  obtain ⟨cs, h1, h2⟩ := h
  by_cases e : g = k
  · subst e
    exact ⟨_, heap_setCell_same W g o cs t u h1, by simpa using h2⟩
  · exact ⟨cs, (heap_setCell_other _ _ _ _ e).trans h1, h2⟩
theorem Ty.cell {W : World} {g s : Nat} {t : TypeId} (h : Ty W g t s) {o : Nat} (ho : o < s) : (∃ u, W.cell? ⟨g, o, none⟩ = some u) ∧ W.frozen? ⟨g, o, none⟩ = false := by
  obtain ⟨cs, h1, h2⟩ := h
  exact ⟨⟨cs[o]'(by omega), (cell_of_row _ _ _ _ _ _ h1).trans (Array.getElem?_eq_getElem (by omega))⟩, frozen_of_row _ _ _ _ _ h1⟩
theorem Ty.lt {W : World} {g s : Nat} {t : TypeId} (h : Ty W g t s) : g < W.heap.size := by
  obtain ⟨cs, h1, h2⟩ := h
  exact (Array.getElem?_eq_some_iff.1 h1).1
/-- Extensions that are yet to be written over, from the i-th on. -/
def Xi (W : World) (base top g g2 : Nat) (xs : List Xr) (i : Nat) : Prop := ∀ j x, i ≤ j → xs[j]? = some x → ∃ b, W.cell? ⟨g, j * 2 + 1, none⟩ = some (.slice (some ⟨b, 0, none⟩) x.data.length (x.data.length + 2)) ∧ Ty W b 5 (x.data.length + 2) ∧ b ≠ g ∧ b ≠ g2 ∧ base ≤ b ∧ b < top
structure SpI (w W : World) (base top : Nat) (s : Sg) (hx tx : List Xr) (gh gt gd gc : Nat) (i i' : Nat) : Prop where
  d : Ty W gd 5 (s.data.length + 2)
  c : Ty W gc 91 ((s.clm.length + 2) * 2)
  h : Ty W gh 93 ((hx.length + 2) * 2)
  t : Ty W gt 93 ((tx.length + 2) * 2)
  xh : Xi W base top gh gt hx i
  xt : Xi W base top gt gh tx i'
  box : W.heap[w.heap.size]? = some (.cells (svC s (lV gh hx.length) (lV gt tx.length) (lV gd s.data.length) (lV gc s.clm.length)) 37 (0, 0))
  kl : Kl (fun g => base ≤ g ∧ g < top) w W
  bs : base ≤ gd ∧ base ≤ gc ∧ base ≤ gh ∧ base ≤ gt
  ne : gh ≠ gt ∧ gd ≠ gh ∧ gd ≠ gt ∧ gc ≠ gh ∧ gc ≠ gt
  lt : gd < w.heap.size ∧ gc < w.heap.size ∧ gh < w.heap.size ∧ gt < w.heap.size
  tp : gd < top ∧ gc < top ∧ gh < top ∧ gt < top
theorem Xi.set {W : World} {base top g g2 : Nat} {xs : List Xr} {i : Nat} (h : Xi W base top g g2 xs i) {k o : Nat} {u : Value} (hk : k ≠ g) : Xi (W.setCell ⟨k, o, none⟩ u) base top g g2 xs i := fun j x hj hx => by
  obtain ⟨b, h1, h2, h3⟩ := h j x hj hx
  exact ⟨b, (World.cell?_of_block (a := ⟨g, j * 2 + 1, none⟩) (heap_setCell_other _ _ _ _ (fun e => hk e.symm))).trans h1, h2.set k o u, h3⟩
theorem SpI.set {w W : World} {base top : Nat} {s : Sg} {hx tx : List Xr} {gh gt gd gc i i' : Nat} (h : SpI w W base top s hx tx gh gt gd gc i i') {k o : Nat} {u : Value} (hh : k ≠ gh) (ht : k ≠ gt) (hb : base ≤ k ∧ k < top) (hB : k ≠ w.heap.size) : SpI w (W.setCell ⟨k, o, none⟩ u) base top s hx tx gh gt gd gc i i' :=
  ⟨h.d.set k o u, h.c.set k o u, h.h.set k o u, h.t.set k o u, h.xh.set hh, h.xt.set ht, (heap_setCell_other _ _ _ _ (Ne.symm hB)).trans h.box, h.kl.grown (grown_set W k o u) (fun j hj => .inl (by simp at hj; omega)), h.bs, h.ne, h.lt, h.tp⟩
theorem cell_set {W : World} {g o o' : Nat} {u v : Value} (h : W.cell? ⟨g, o, none⟩ = some v) (ho : o' ≠ o) : (W.setCell ⟨g, o', none⟩ u).cell? ⟨g, o, none⟩ = some v := by
  rw [← h]
  exact World.cell?_setCell_other _ _ _ _ (fun e => ho (Addr.mk.inj e).2.1)
theorem Xi.own {W : World} {base top g g2 : Nat} {xs : List Xr} {i : Nat} (h : Xi W base top g g2 xs i) {u u' : Value} : Xi ((W.setCell ⟨g, i * 2, none⟩ u).setCell ⟨g, i * 2 + 1, none⟩ u') base top g g2 xs (i + 1) := fun j x hj hx => by
  obtain ⟨b, h1, h2, h3⟩ := h j x (by omega) hx
  exact ⟨b, cell_set (cell_set h1 (by omega)) (by omega), (h2.set _ _ _).set _ _ _, h3⟩
theorem SpI.headNext {w W : World} {base top : Nat} {s : Sg} {hx tx : List Xr} {gh gt gd gc i i' : Nat} (h : SpI w W base top s hx tx gh gt gd gc i i') {u u' : Value} : SpI w ((W.setCell ⟨gh, i * 2, none⟩ u).setCell ⟨gh, i * 2 + 1, none⟩ u') base top s hx tx gh gt gd gc (i + 1) i' :=
  ⟨(h.d.set _ _ _).set _ _ _, (h.c.set _ _ _).set _ _ _, (h.h.set _ _ _).set _ _ _, (h.t.set _ _ _).set _ _ _, h.xh.own, (h.xt.set h.ne.1).set h.ne.1, (heap_setCell_other _ _ _ _ (by have := h.lt; simp; omega)).trans ((heap_setCell_other _ _ _ _ (by have := h.lt; simp; omega)).trans h.box), (h.kl.grown (grown_set _ _ _ _) (fun j hj => .inl (by have := h.bs; have := h.tp; simp at hj; omega))).grown (grown_set _ _ _ _) (fun j hj => .inl (by have := h.bs; have := h.tp; simp at hj; omega)), h.bs, h.ne, h.lt, h.tp⟩
theorem SpI.tailNext {w W : World} {base top : Nat} {s : Sg} {hx tx : List Xr} {gh gt gd gc i i' : Nat} (h : SpI w W base top s hx tx gh gt gd gc i i') {u u' : Value} : SpI w ((W.setCell ⟨gt, i' * 2, none⟩ u).setCell ⟨gt, i' * 2 + 1, none⟩ u') base top s hx tx gh gt gd gc i (i' + 1) :=
  ⟨(h.d.set _ _ _).set _ _ _, (h.c.set _ _ _).set _ _ _, (h.h.set _ _ _).set _ _ _, (h.t.set _ _ _).set _ _ _, (h.xh.set h.ne.1.symm).set h.ne.1.symm, h.xt.own, (heap_setCell_other _ _ _ _ (by have := h.lt; simp; omega)).trans ((heap_setCell_other _ _ _ _ (by have := h.lt; simp; omega)).trans h.box), (h.kl.grown (grown_set _ _ _ _) (fun j hj => .inl (by have := h.bs; have := h.tp; simp at hj; omega))).grown (grown_set _ _ _ _) (fun j hj => .inl (by have := h.bs; have := h.tp; simp at hj; omega)), h.bs, h.ne, h.lt, h.tp⟩
theorem blk_ty {W : World} {g : Nat} {zs : List Int} (h : Blk .u8 W g 5 zs) : Ty W g 5 zs.length := ⟨_, h, by simp⟩
theorem lx_xi {W : World} {base top g g2 : Nat} {xs R : List Xr} (h : LX W base top g xs R) (hn : ∀ b, base ≤ b → b < top → b ≠ g → b ≠ g2) {base' top' : Nat} (hb : base' ≤ base) (ht : top ≤ top') : Xi W base' top' g g2 xs 0 := fun j x _ hx => by
  obtain ⟨b, e, h1, h2, h3, h4⟩ := h.got j x hx
  obtain ⟨q1, q2, _⟩ := h.row.cells e
  exact ⟨b, q2, by have := blk_ty h4; rwa [mk2_len] at this, h3, hn b h1 h2 h3, by omega, by omega⟩
theorem lx_ty {W : World} {base top g : Nat} {xs R : List Xr} (h : LX W base top g xs R) : Ty W g 93 ((xs.length + 2) * 2) := ⟨_, h.row, by rw [List.size_toArray, xc_len2, h.len]⟩
theorem own_tyS {w : World} {base n g : Nat} {xs : List C.Sp} (h : C.SOwn w base (.slice (some ⟨g, 0, none⟩) n n) xs) : Ty w g 91 (n * 2) := by
  obtain ⟨h1, ⟨e, _⟩ | ⟨g', cap, cur, e, _, hb, _, _, hz, hc⟩⟩ := h
  · cases e
  · cases e
    exact ⟨_, hb, hz⟩
theorem blk_ne {W : World} {g g' s s' : Nat} {t t' : TypeId} (h : Ty W g t s) (h' : Ty W g' t' s') (ht : t ≠ t') : g ≠ g' := fun e => by
  subst e
  obtain ⟨c, h1, _⟩ := h
  obtain ⟨c', h2, _⟩ := h'
  rw [h1] at h2
  simp only [Option.some.injEq, Obj.cells.injEq] at h2
  exact ht h2.2.1

set_option maxRecDepth 100000 in
set_option maxHeartbeats 16000000 in
theorem spoil_any (w : World) (base top B1 B2 B3 : Nat) (s : Sg) (hx tx hR tR : List Xr) (gh gt gd gc : Nat) (hL : LS w base B1 B2 B3 s hx tx hR tR gh gt gd gc) (hhx : hx.length ≤ 1048576 ∧ ∀ x ∈ hx, x.data.length ≤ 1048576) (htx : tx.length ≤ 1048576 ∧ ∀ x ∈ tx, x.data.length ≤ 1048576) (hd : s.data.length ≤ 1048576) (hc : s.clm.length ≤ 1048576) (htp : gc < top) (htp3 : B3 ≤ top) :
    Calls Tryd.prog 20 #[.agg (svC s (lV gh hx.length) (lV gt tx.length) (lV gd s.data.length) (lV gc s.clm.length))] w fun e w' => (∃ u, e = .returned u) ∧ Kl (fun g => base ≤ g ∧ g < top) w w' := by
  obtain ⟨W0, hW0⟩ : ∃ W, w.alloc (.cells (svC s (lV gh hx.length) (lV gt tx.length) (lV gd s.data.length) (lV gc s.clm.length)) 37) = W := ⟨_, rfl⟩
  have HW0 : Hid (w.alloc (.cells (svC s (lV gh hx.length) (lV gt tx.length) (lV gd s.data.length) (lV gc s.clm.length)) 37) = W0) := hW0
  have b0 : Below w.heap.size w W0 := by rw [← hW0]; exact (Below.refl _ _).alloc (Nat.le_refl _) _
  have hL0 := hL.below b0
  have HI0 : Hid (SpI w W0 base top s hx tx gh gt gd gc 0 0) := by
    have g1 := hL.head.g0
    have g2 := hL.tail.g0
    have g3 := hL.gdb
    have g4 := (hL.clm.lt gc rfl)
    have th := lx_ty hL0.head
    have tt := lx_ty hL0.tail
    have td : Ty W0 gd 5 (s.data.length + 2) := by have := blk_ty hL0.data; rwa [mk2_len] at this
    have tc : Ty W0 gc 91 ((s.clm.length + 2) * 2) := own_tyS hL0.clm
    have lth := (lx_ty hL.head).lt
    have ltt := (lx_ty hL.tail).lt
    have ltd : gd < w.heap.size := (blk_ty hL.data).lt
    refine ⟨td, tc, th, tt, lx_xi hL0.head (fun b h1 h2 _ => by omega) (Nat.le_refl _) (by omega), lx_xi hL0.tail (fun b h1 h2 _ => by omega) (by omega) (by omega), ?_, Kl.of_below b0, ⟨by omega, by omega, by omega, by omega⟩, ⟨by omega, by omega, by omega, blk_ne tc th (by decide), blk_ne tc tt (by decide)⟩, ⟨ltd, g4.2, lth, ltt⟩, ⟨by omega, htp, by omega, by omega⟩⟩
    rw [← hW0]
    exact heap_alloc_new' _ _
  obtain ⟨nd, hnd⟩ : ∃ n, s.data.length = n := ⟨_, rfl⟩
  obtain ⟨nc, hnc⟩ : ∃ n, s.clm.length = n := ⟨_, rfl⟩
  obtain ⟨nh, hnh⟩ : ∃ n, hx.length = n := ⟨_, rfl⟩
  obtain ⟨nt, hnt⟩ : ∃ n, tx.length = n := ⟨_, rfl⟩
  obtain ⟨B, hB⟩ : ∃ B, w.heap.size = B := ⟨_, rfl⟩
  have HN : Hid (s.data.length = nd ∧ s.clm.length = nc ∧ hx.length = nh ∧ tx.length = nt ∧ w.heap.size = B) := ⟨hnd, hnc, hnh, hnt, hB⟩
  have HXb : Hid ((∀ x ∈ hx, x.data.length ≤ 1048576) ∧ (∀ x ∈ tx, x.data.length ≤ 1048576)) := ⟨hhx.2, htx.2⟩
  have HC : Hid (∀ (W : World) (i i' : Nat), SpI w W base top s hx tx gh gt gd gc i i' → W.cell? ⟨B, 3, none⟩ = some (.slice (some ⟨gh, 0, none⟩) nh (nh + 2)) ∧ W.cell? ⟨B, 4, none⟩ = some (.slice (some ⟨gt, 0, none⟩) nt (nt + 2)) ∧ W.cell? ⟨B, 7, none⟩ = some (.slice (some ⟨gd, 0, none⟩) nd (nd + 2)) ∧ W.cell? ⟨B, 12, none⟩ = some (.slice (some ⟨gc, 0, none⟩) nc (nc + 2))) := fun W i i' h => by
    have hb := h.box
    rw [hB, hnd, hnc, hnh, hnt] at hb
    exact ⟨(cell_of_row _ _ _ _ _ _ hb).trans rfl, (cell_of_row _ _ _ _ _ _ hb).trans rfl, (cell_of_row _ _ _ _ _ _ hb).trans rfl, (cell_of_row _ _ _ _ _ _ hb).trans rfl⟩
  have hbd : nd ≤ 1048576 := by omega
  have hbc : nc ≤ 1048576 := by omega
  have hbh : nh ≤ 1048576 := by omega
  have hbt : nt ≤ 1048576 := by omega
  rw [hnd, hnc, hnh, hnt] at HW0 ⊢
  clear htp htp3 hL hL0 hW0 b0 hhx htx hd hc hnd hnc hnh hnt
  go_enter Tryd.func20, Tryd.ntmps20
  go_upto_region 1 with fail
  rw [HW0.out]
  go_wp2_with fail
  go_loopw [2] (fun q wr => ∃ i : Nat, i ≤ nd ∧ q = .int .i64 (i : Nat) ∧ Hid (SpI w wr base top s hx tx gh gt gd gc 0 0)) (fun q _ => nd - (intOf q).toNat)
  case atStart => exact ⟨0, by omega, rfl, HI0⟩
  case round =>
  obtain ⟨i, hi, rfl, HI⟩ := hrel
  obtain ⟨b3, b4, b7, b12⟩ := HC.out wr _ _ HI.out
  clear HI0
  by_cases hlt : i < nd
  · have hlt' : (i : Int) < (nd : Int) := by omega
    have h0i : 0 ≤ (i : Int) := by omega
    have hwi : IntKind.i64.wrap ((i : Int) + 1) = (i : Int) + 1 := by rw [IntKind.wrap_i64]; omega
    obtain ⟨⟨u1, t1⟩, t2⟩ := HI.out.d.cell (o := i) (by have := HN.out; omega)
    have HE : Hid (SpI w (wr.setCell ⟨gd, i, none⟩ (.int .u8 201)) base top s hx tx gh gt gd gc 0 0) := HI.out.set HI.out.ne.2.1 HI.out.ne.2.2.1 ⟨HI.out.bs.1, HI.out.tp.1⟩ (by have := HI.out.lt; omega)
    go_wp2
    go_roundw
    case rel => exact ⟨i + 1, by omega, by go_num, HE⟩
    case measure => simp [intOf]; omega
  · have hlt' : ¬ (i : Int) < (nd : Int) := by omega
    clear hlt hi
    have HI1 : Hid (SpI w wr base top s hx tx gh gt gd gc 0 0) := HI
    go_wp2_with fail
    go_loopw [3] (fun q wr => ∃ i : Nat, i ≤ nc ∧ q = .int .i64 (i : Nat) ∧ Hid (SpI w wr base top s hx tx gh gt gd gc 0 0)) (fun q _ => nc - (intOf q).toNat)
    case atStart => exact ⟨0, by omega, rfl, HI1⟩
    case round =>
    obtain ⟨i, hi, rfl, HI⟩ := hrel
    obtain ⟨b3, b4, b7, b12⟩ := HC.out wr _ _ HI.out
    clear HI1
    by_cases hlt : i < nc
    · have hlt' : (i : Int) < (nc : Int) := by omega
      have h0i : 0 ≤ (i : Int) := by omega
      have hwi : IntKind.i64.wrap ((i : Int) + 1) = (i : Int) + 1 := by rw [IntKind.wrap_i64]; omega
      obtain ⟨⟨u1, t1⟩, t2⟩ := HI.out.c.cell (o := i * 2) (by have := HN.out; omega)
      obtain ⟨⟨u2, t3⟩, t4⟩ := (HI.out.c.set gc (i * 2) (.int .i64 (-4))).cell (o := i * 2 + 1) (by have := HN.out; omega)
      have HE : Hid (SpI w ((wr.setCell ⟨gc, i * 2, none⟩ (.int .i64 (-4))).setCell ⟨gc, i * 2 + 1, none⟩ (.int .i64 (-4))) base top s hx tx gh gt gd gc 0 0) := (HI.out.set HI.out.ne.2.2.2.1 HI.out.ne.2.2.2.2 ⟨HI.out.bs.2.1, HI.out.tp.2.1⟩ (by have := HI.out.lt; omega)).set HI.out.ne.2.2.2.1 HI.out.ne.2.2.2.2 ⟨HI.out.bs.2.1, HI.out.tp.2.1⟩ (by have := HI.out.lt; omega)
      go_wp2
      go_roundw
      case rel => exact ⟨i + 1, by omega, by go_num, HE⟩
      case measure => simp [intOf]; omega
    · have hlt' : ¬ (i : Int) < (nc : Int) := by omega
      clear hlt hi
      have HI2 : Hid (SpI w wr base top s hx tx gh gt gd gc 0 0) := HI
      go_wp2_with fail
      go_loopw [4, 5] (fun q _ wr => ∃ i : Nat, i ≤ nh ∧ q = .int .i64 (i : Nat) ∧ Hid (SpI w wr base top s hx tx gh gt gd gc i 0)) (fun q _ _ => nh - (intOf q).toNat)
      case atStart => exact ⟨0, by omega, rfl, HI2⟩
      case round =>
      obtain ⟨i, hi, rfl, HI⟩ := hrel
      obtain ⟨b3, b4, b7, b12⟩ := HC.out wr _ _ HI.out
      clear HI2
      by_cases hlt : i < nh
      · have hlt' : (i : Int) < (nh : Int) := by omega
        have h0i : 0 ≤ (i : Int) := by omega
        have hwi : IntKind.i64.wrap ((i : Int) + 1) = (i : Int) + 1 := by rw [IntKind.wrap_i64]; omega
        obtain ⟨x, hx0⟩ := get_one hx i (by have := HN.out.2.2.1; omega)
        have hxb : x.data.length ≤ 1048576 := HXb.out.1 x (List.mem_of_getElem? hx0)
        obtain ⟨xn, hxn⟩ : ∃ n, x.data.length = n := ⟨_, rfl⟩
        rw [hxn] at hxb
        have HX0 : Hid (hx[i]? = some x ∧ x.data.length = xn) := ⟨hx0, hxn⟩
        obtain ⟨b, e1, e2, e3, e4, e5⟩ := HI.out.xh i x (Nat.le_refl _) hx0
        rw [hxn] at e1
        have e6 := e2.lt
        clear hx0 hxn
        obtain ⟨w2, hw2⟩ : ∃ x, x = wr := ⟨_, rfl⟩
        subst hw2
        go_wp2_with fail
        go_loopw [5] (fun q wr => ∃ k : Nat, k ≤ xn ∧ q = .int .i64 (k : Nat) ∧ Hid (SpI w wr base top s hx tx gh gt gd gc i 0)) (fun q _ => xn - (intOf q).toNat)
        case atStart => exact ⟨0, by omega, rfl, HI⟩
        case round =>
        obtain ⟨k, hk, rfl, HJ⟩ := hrel
        clear b3 b4 b7 b12 e1 e2 e3 e4 e5 e6 HI
        obtain ⟨b3, b4, b7, b12⟩ := HC.out wr _ _ HJ.out
        obtain ⟨b, e1, e2, e3, e4, e5⟩ := HJ.out.xh i x (Nat.le_refl _) HX0.out.1
        rw [HX0.out.2] at e1 e2
        by_cases hkl : k < xn
        · have hkl' : (k : Int) < (xn : Int) := by omega
          have h0k : 0 ≤ (k : Int) := by omega
          have hwk : IntKind.i64.wrap ((k : Int) + 1) = (k : Int) + 1 := by rw [IntKind.wrap_i64]; omega
          obtain ⟨⟨u1, t1⟩, t2⟩ := e2.cell (o := k) (by omega)
          have hbB : b ≠ w.heap.size := blk_ne (t := 5) (t' := 37) (s' := 14) e2 ⟨_, HJ.out.box, rfl⟩ (by decide)
          have HE : Hid (SpI w (wr.setCell ⟨b, k, none⟩ (.int .u8 202)) base top s hx tx gh gt gd gc i 0) := HJ.out.set e3 e4 e5 hbB
          clear e2 e3 e4 e5 hbB
          go_wp2
          go_roundw
          case rel => exact ⟨k + 1, by omega, by go_num, HE⟩
          case measure => simp [intOf]; omega
        · have hkl' : ¬ (k : Int) < (xn : Int) := by omega
          obtain ⟨⟨u1, t1⟩, t2⟩ := HJ.out.h.cell (o := i * 2) (by have := HN.out.2.2.1; omega)
          obtain ⟨⟨u2, t3⟩, t4⟩ := (HJ.out.h.set gh (i * 2) (.int .i64 (-4))).cell (o := i * 2 + 1) (by have := HN.out.2.2.1; omega)
          have HE : Hid (SpI w ((wr.setCell ⟨gh, i * 2, none⟩ (.int .i64 (-4))).setCell ⟨gh, i * 2 + 1, none⟩ (.slice none 0 0)) base top s hx tx gh gt gd gc (i + 1) 0) := HJ.out.headNext
          clear e2 e3 e4 e5 hk hkl
          go_wp2
          go_roundw
          case rel => exact ⟨i + 1, by omega, by go_num, HE⟩
          case measure => simp [intOf]; omega
      · have hlt' : ¬ (i : Int) < (nh : Int) := by omega
        obtain rfl : nh = i := by omega
        clear hlt hi
        have HI3 : Hid (SpI w wr base top s hx tx gh gt gd gc nh 0) := HI
        go_wp2_with fail
        go_loopw [6, 7] (fun q _ wr => ∃ i : Nat, i ≤ nt ∧ q = .int .i64 (i : Nat) ∧ Hid (SpI w wr base top s hx tx gh gt gd gc nh i)) (fun q _ _ => nt - (intOf q).toNat)
        case atStart => exact ⟨0, by omega, rfl, HI3⟩
        case round =>
        obtain ⟨i, hi, rfl, HI⟩ := hrel
        obtain ⟨b3, b4, b7, b12⟩ := HC.out wr _ _ HI.out
        clear HI3
        by_cases hlt : i < nt
        · have hlt' : (i : Int) < (nt : Int) := by omega
          have h0i : 0 ≤ (i : Int) := by omega
          have hwi : IntKind.i64.wrap ((i : Int) + 1) = (i : Int) + 1 := by rw [IntKind.wrap_i64]; omega
          obtain ⟨x, hx0⟩ := get_one tx i (by have := HN.out.2.2.2.1; omega)
          have hxb : x.data.length ≤ 1048576 := HXb.out.2 x (List.mem_of_getElem? hx0)
          obtain ⟨xn, hxn⟩ : ∃ n, x.data.length = n := ⟨_, rfl⟩
          rw [hxn] at hxb
          have HX0 : Hid (tx[i]? = some x ∧ x.data.length = xn) := ⟨hx0, hxn⟩
          obtain ⟨b, e1, e2, e3, e4, e5⟩ := HI.out.xt i x (Nat.le_refl _) hx0
          rw [hxn] at e1
          have e6 := e2.lt
          clear hx0 hxn
          obtain ⟨w2, hw2⟩ : ∃ x, x = wr := ⟨_, rfl⟩
          subst hw2
          go_wp2_with fail
          go_loopw [7] (fun q wr => ∃ k : Nat, k ≤ xn ∧ q = .int .i64 (k : Nat) ∧ Hid (SpI w wr base top s hx tx gh gt gd gc nh i)) (fun q _ => xn - (intOf q).toNat)
          case atStart => exact ⟨0, by omega, rfl, HI⟩
          case round =>
          obtain ⟨k, hk, rfl, HJ⟩ := hrel
          clear b3 b4 b7 b12 e1 e2 e3 e4 e5 e6 HI
          obtain ⟨b3, b4, b7, b12⟩ := HC.out wr _ _ HJ.out
          obtain ⟨b, e1, e2, e3, e4, e5⟩ := HJ.out.xt i x (Nat.le_refl _) HX0.out.1
          rw [HX0.out.2] at e1 e2
          by_cases hkl : k < xn
          · have hkl' : (k : Int) < (xn : Int) := by omega
            have h0k : 0 ≤ (k : Int) := by omega
            have hwk : IntKind.i64.wrap ((k : Int) + 1) = (k : Int) + 1 := by rw [IntKind.wrap_i64]; omega
            obtain ⟨⟨u1, t1⟩, t2⟩ := e2.cell (o := k) (by omega)
            have hbB : b ≠ w.heap.size := blk_ne (t := 5) (t' := 37) (s' := 14) e2 ⟨_, HJ.out.box, rfl⟩ (by decide)
            have HE : Hid (SpI w (wr.setCell ⟨b, k, none⟩ (.int .u8 203)) base top s hx tx gh gt gd gc nh i) := HJ.out.set e4 e3 e5 hbB
            clear e2 e3 e4 e5 hbB
            go_wp2
            go_roundw
            case rel => exact ⟨k + 1, by omega, by go_num, HE⟩
            case measure => simp [intOf]; omega
          · have hkl' : ¬ (k : Int) < (xn : Int) := by omega
            obtain ⟨⟨u1, t1⟩, t2⟩ := HJ.out.t.cell (o := i * 2) (by have := HN.out.2.2.2.1; omega)
            obtain ⟨⟨u2, t3⟩, t4⟩ := (HJ.out.t.set gt (i * 2) (.int .i64 (-4))).cell (o := i * 2 + 1) (by have := HN.out.2.2.2.1; omega)
            have HE : Hid (SpI w ((wr.setCell ⟨gt, i * 2, none⟩ (.int .i64 (-4))).setCell ⟨gt, i * 2 + 1, none⟩ (.slice none 0 0)) base top s hx tx gh gt gd gc nh (i + 1)) := HJ.out.tailNext
            clear e2 e3 e4 e5 hk hkl
            go_wp2
            go_roundw
            case rel => exact ⟨i + 1, by omega, by go_num, HE⟩
            case measure => simp [intOf]; omega
        · have hlt' : ¬ (i : Int) < (nt : Int) := by omega
          obtain rfl : nt = i := by omega
          clear hlt hi
          go_wp2
          go_end0
          exact ⟨⟨_, rfl⟩, HI.out.kl⟩

end Go.Proofs.YtdfdaambfihjaaaDoor.L

namespace Go.Proofs.YtdfdaambfihjaaaDoor.L
open Go.RowKit
set_option linter.unusedVariables false
set_option linter.unusedSimpArgs false

/-! ## A script's steps, and the law's world at its beginning -/
structure St where
  do' : Int
  wh : Int
  pe : Int
  n : Int
  all : Bool
  y : Sv
def St.L (x : St) : List Value := .int .i64 x.do' :: .int .i64 x.wh :: .int .i64 x.pe :: .int .i64 x.n :: .bool x.all :: x.y.L
def Sc (w : World) (v : Value) (L : List St) : Prop := ∃ a c, v = .slice a L.length c ∧ (L = [] ∨ ∃ g off, a = some ⟨g, off, none⟩ ∧ ∀ i x, L[i]? = some x → ∀ j u, x.L[j]? = some u → w.cell? ⟨g, off + i * 19 + j, none⟩ = some u)
def sd0 (p m r : Nat) (lim : Int) : Sde := ⟨p, m, r, lim, fun _ => none, 0, [], fun _ _ => [], .slice none 0 0, []⟩
def pl0 (ma mb ra rb : Nat) (g : Nat) : Plc := if g = ma then (1, 0, 0) else if g = mb then (3, 0, 0) else if g = ra then (2, 0, 0) else if g = rb then (4, 0, 0) else (0, 0, 0)
def X0 (pa ma ra : Nat) (one : Int) (pb mb rb : Nat) (two : Int) (k : Nat) : Sde := if k = 0 then sd0 pa ma ra one else sd0 pb mb rb two
theorem sd0_fl {m g : Nat} (h : FL m (fun _ => none) g) : g = m := by
  rcases h with e | ⟨K, x, q, e, _⟩
  · exact e
  · cases e
theorem py_start {w w1 w2 w3 w4 w5 w6 w7 : World} {one two : Int} (h1 : Below w.heap.size w w1) (l2 : Lg w2 (w1.heap.size + 1) w1.heap.size one (fun _ => none) 0 0 []) (b2 : Below w1.heap.size w1 w2) (l3 : Lg w3 (w2.heap.size + 1) w2.heap.size two (fun _ => none) 0 0 []) (b3 : Below w2.heap.size w2 w3)
    (e4 : w4 = w3.alloc (.cells #[.pointer (some ⟨w1.heap.size + 1, 0, none⟩), .pointer (some ⟨w2.heap.size + 1, 0, none⟩)] 24)) (r5 : Rl w5 w4.heap.size one (.slice none 0 0) []) (b5 : Below w4.heap.size w4 w5) (r6 : Rl w6 w5.heap.size two (.slice none 0 0) []) (b6 : Below w5.heap.size w5 w6)
    (e7 : w7 = w6.alloc (.cells #[.pointer (some ⟨w4.heap.size, 0, none⟩), .pointer (some ⟨w5.heap.size, 0, none⟩)] 27)) :
    Py w w7 (pl0 w1.heap.size w2.heap.size w4.heap.size w5.heap.size) 0 (X0 (w1.heap.size + 1) w1.heap.size w4.heap.size one (w2.heap.size + 1) w2.heap.size w5.heap.size two) (.slice none 0 0) [] [] (.slice none 0 0) [] w3.heap.size w6.heap.size := by
  have b4 : Below w3.heap.size w3 w4 := by rw [e4]; exact (Below.refl _ _).alloc (Nat.le_refl _) _
  have b7 : Below w6.heap.size w6 w7 := by rw [e7]; exact (Below.refl _ _).alloc (Nat.le_refl _) _
  have s4 : w4.heap.size = w3.heap.size + 1 := by rw [e4]; simp
  have s1 := h1.size
  have p2 := l2.plt
  have p3 := l3.plt
  have q5 := (Array.getElem?_eq_some_iff.1 r5.box).1
  have q6 := (Array.getElem?_eq_some_iff.1 r6.box).1
  have s2 := b2.size
  have s3 := b3.size
  have s5 := b5.size
  have s6 := b6.size
  have s7 := b7.size
  have c37 : Below w3.heap.size w3 w7 := (b4.trans ((b5.mono (by omega)).trans ((b6.mono (by omega)).trans (b7.mono (by omega)))))
  have c27 : Below w2.heap.size w2 w7 := b3.trans (c37.mono s3)
  have c57 : Below w5.heap.size w5 w7 := b6.trans (b7.mono s6)
  refine ⟨fun k hk => ?_, ?_, fun g _ hm => ?_, World.ownsRow_nil _ _ _ _, World.ownsRow_nil _ _ _ _, fun g hg => (by cases hg), fun g hg => (by cases hg), fun z hz => (by cases hz), List.Pairwise.nil, fun y hy => (by cases hy), ?_, ?_, ?_, ?_⟩
  · have e : k = 0 ∨ k = 1 := by omega
    rcases e with rfl | rfl
    · refine ⟨l2.below c27, r5.below c57, fun g hg => ?_, ?_, fun g hg => (by cases hg), ?_, fun K i hi => rfl, fun K i z hi hz => (by cases hz), fun K i hi => List.Pairwise.nil, fun x hx => (by cases hx), Nat.le_refl _⟩
      · rw [sd0_fl hg]; simp [pl0, X0, sd0]
      · have h1 : ¬ w4.heap.size = w1.heap.size := by omega
        have h2 : ¬ w4.heap.size = w2.heap.size := by omega
        simp [pl0, X0, sd0, h1, h2]
      · have h1 : ¬ w1.heap.size + 1 = w2.heap.size := by omega
        have h2 : ¬ w1.heap.size + 1 = w4.heap.size := by omega
        have h3 : ¬ w1.heap.size + 1 = w5.heap.size := by omega
        simp [pl0, X0, sd0, h1, h2, h3]
    · refine ⟨l3.below c37, r6.below b7, fun g hg => ?_, ?_, fun g hg => (by cases hg), ?_, fun K i hi => rfl, fun K i z hi hz => (by cases hz), fun K i hi => List.Pairwise.nil, fun x hx => (by cases hx), Nat.le_refl _⟩
      · rw [sd0_fl hg]
        have h1 : ¬ w2.heap.size = w1.heap.size := by omega
        simp [pl0, X0, sd0, h1]
      · have h1 : ¬ w5.heap.size = w1.heap.size := by omega
        have h2 : ¬ w5.heap.size = w2.heap.size := by omega
        have h3 : ¬ w5.heap.size = w4.heap.size := by omega
        simp [pl0, X0, sd0, h1, h2, h3]
      · have h1 : ¬ w2.heap.size + 1 = w1.heap.size := by omega
        have h2 : ¬ w2.heap.size + 1 = w4.heap.size := by omega
        have h3 : ¬ w2.heap.size + 1 = w5.heap.size := by omega
        simp [pl0, X0, sd0, h1, h2, h3]
  · exact h1.trans ((b2.mono s1).trans ((c27.mono (by omega))))
  · unfold mtb pl0 at hm
    by_cases a1 : g = w1.heap.size
    · omega
    · by_cases a2 : g = w2.heap.size
      · omega
      · by_cases a3 : g = w4.heap.size
        · omega
        · by_cases a4 : g = w5.heap.size
          · omega
          · simp [a1, a2, a3, a4] at hm
  · have c47 : Below w4.heap.size w4 w7 := b5.trans (c57.mono s5)
    refine (c47.block _ (by omega)).trans ?_
    rw [e4]
    exact heap_alloc_new' _ _
  · rw [e7]
    exact heap_alloc_new' _ _
  · have h1 : ¬ w3.heap.size = w1.heap.size := by omega
    have h2 : ¬ w3.heap.size = w2.heap.size := by omega
    have h3 : ¬ w3.heap.size = w4.heap.size := by omega
    have h4 : ¬ w3.heap.size = w5.heap.size := by omega
    simp [pl0, h1, h2, h3, h4]
  · have h1 : ¬ w6.heap.size = w1.heap.size := by omega
    have h2 : ¬ w6.heap.size = w2.heap.size := by omega
    have h3 : ¬ w6.heap.size = w4.heap.size := by omega
    have h4 : ¬ w6.heap.size = w5.heap.size := by omega
    simp [pl0, h1, h2, h3, h4]
theorem and_one (a : Int) : ∃ k : Nat, k < 2 ∧ bits .and .i64 a 1 = (k : Int) := by
  refine ⟨(BitVec.ofInt 64 a).toNat % 2, by omega, ?_⟩
  show IntKind.i64.wrap ((BitVec.ofInt 64 a &&& BitVec.ofInt 64 ((1 : Nat) : Int)).toNat : Int) = _
  rw [BitVec.toNat_and, BitVec.ofInt_natCast, BitVec.toNat_ofNat, show (1 : Nat) % 2 ^ 64 = 1 by decide, Nat.and_one_is_mod, IntKind.wrap_i64]
  omega

end Go.Proofs.YtdfdaambfihjaaaDoor.L

namespace Go.Proofs.YtdfdaambfihjaaaDoor.L
open Go.RowKit
set_option linter.unusedVariables false
set_option linter.unusedSimpArgs false

/-! ## What the law's loop keeps -/
def LI (w wr : World) (bl br i : Nat) (hvl wvl : Value) : Prop := ∃ pl X H Wr, (∀ k, k < 2 → RelS (X k)) ∧ Py w wr pl i X hvl (H.map Sz.y) H wvl Wr bl br ∧ H.map (fun z => z.y.s) = Wr.map Sv.s ∧ H.length + (X 0).ws.length + (X 1).ws.length ≤ i
theorem size_st : (Tryd.prog.info? 39).map (·.size) = some 19 := by kernel_rfl
def zm1 : List Value := [.int .i64 (-1), .int .i64 0, .int .i64 0, .slice none 0 0, .slice none 0 0, .int .i64 0, .int .i64 0, .slice none 0 0, .int .i64 0, .int .i64 0, .int .i64 0, .int .i64 0, .slice none 0 0, .int .i64 0]
def zm2 : List Value := [.int .i64 (-2), .int .i64 0, .int .i64 0, .slice none 0 0, .slice none 0 0, .int .i64 0, .int .i64 0, .slice none 0 0, .int .i64 0, .int .i64 0, .int .i64 0, .int .i64 0, .slice none 0 0, .int .i64 0]
abbrev z19 : Array Value := #[.int .i64 0, .int .i64 0, .int .i64 0, .int .i64 0, .bool false, .int .i64 0, .int .i64 0, .int .i64 0, .slice none 0 0, .slice none 0 0, .int .i64 0, .int .i64 0, .slice none 0 0, .int .i64 0, .int .i64 0, .int .i64 0, .int .i64 0, .slice none 0 0, .int .i64 0]
def calmL (Q : Exit → Act → World → Prop) : Exit → Act → World → Prop
  | .panic _, _, _ => False
  | e, a, w => Q e a w
theorem calmL_le {Q : Exit → Act → World → Prop} {e : Exit} {a : Act} {w : World} (h : calmL Q e a w) : Q e a w := by
  cases e <;> first | exact h | exact h.elim
theorem Py.cl {w0 wr : World} {pl : Nat → Plc} {M bl br : Nat} {X : Nat → Sde} {hvl wvl : Value} {H : List Sz} {Wr Hr : List Sv} (h : Py w0 wr pl M X hvl Hr H wvl Wr bl br) {k : Nat} (hk : k < 2) : wr.cell? ⟨bl, k, none⟩ = some (.pointer (some ⟨(X k).p, 0, none⟩)) := by
  have e : k = 0 ∨ k = 1 := by omega
  rcases e with rfl | rfl <;> exact (cell_of_row _ _ _ _ _ _ h.lb).trans rfl
theorem Py.cr {w0 wr : World} {pl : Nat → Plc} {M bl br : Nat} {X : Nat → Sde} {hvl wvl : Value} {H : List Sz} {Wr Hr : List Sv} (h : Py w0 wr pl M X hvl Hr H wvl Wr bl br) {k : Nat} (hk : k < 2) : wr.cell? ⟨br, k, none⟩ = some (.pointer (some ⟨(X k).r, 0, none⟩)) := by
  have e : k = 0 ∨ k = 1 := by omega
  rcases e with rfl | rfl <;> exact (cell_of_row _ _ _ _ _ _ h.rb).trans rfl
theorem Py.nb {w0 wr : World} {pl : Nat → Plc} {M bl br : Nat} {X : Nat → Sde} {hvl wvl : Value} {H : List Sz} {Wr Hr : List Sv} (h : Py w0 wr pl M X hvl Hr H wvl Wr bl br) {B : Nat} (hB : (pl B).1 = 7) {k : Nat} (hk : k < 2) : ¬ FL (X k).m (X k).S B ∧ ¬ (B = (X k).r ∨ (X k).v.ownBlock = some B) := by
  have hA := h.sd k hk
  refine ⟨fun e => ?_, fun e => e.elim (fun e => ?_) (fun e => ?_)⟩
  · have := hA.fl B e; omega
  · have := hA.fr; rw [← e] at this; omega
  · have := hA.fv B e; omega
theorem Py.up {w0 wr : World} {pl : Nat → Plc} {M bl br : Nat} {X : Nat → Sde} {hvl wvl : Value} {H : List Sz} {Wr Hr : List Sv} (h : Py w0 wr pl M X hvl Hr H wvl Wr bl br) {M' : Nat} (hM : M ≤ M') : Py w0 wr pl M' X hvl Hr H wvl Wr bl br :=
  ⟨fun k hk => ⟨(h.sd k hk).lg.mono hM, (h.sd k hk).rl, (h.sd k hk).fl, (h.sd k hk).fr, (h.sd k hk).fv, (h.sd k hk).fp, (h.sd k hk).gw, (h.sd k hk).sg, (h.sd k hk).pw, (h.sd k hk).sr, Nat.le_trans (h.sd k hk).few hM⟩, h.bw, h.nn, h.hr, h.wr', h.fh, h.fw, h.hs, h.hp, h.hws, h.lb, h.rb, h.pb⟩
theorem bel_un {w w' : World} (h : Below w.drew.heap.size w.drew w') : Below w.heap.size w w' := ⟨h.os, h.tape, h.output, h.size, h.block⟩
theorem kl_un {S : Nat → Prop} {w w' : World} (h : Kl S w.drew w') : Kl S w w' := ⟨h.os, h.tape, h.output, h.size, h.block⟩
theorem bel_dr (w : World) : Below w.heap.size w w.drew := ⟨rfl, rfl, rfl, Nat.le_refl _, fun _ _ => rfl⟩
theorem DpG.un {w w' : World} {p m : Nat} {lim : Int} {S S' : Pm} {M c : Nat} {E' : List En} {v : List Int} {S1 S2 : Int} {all : Bool} (h : DpG w.drew w' p m lim S S' M c E' v S1 S2 all) : DpG w w' p m lim S S' M c E' v S1 S2 all := ⟨h.lg, kl_un h.kl, h.fo, h.w0, h.w1, h.w2, h.nd, h.cov⟩
theorem TkG.un {w w' : World} {p m : Nat} {lim K : Int} {S S' : Pm} {M c : Nat} {E E' : List En} {most : Nat} {ov : Value} (h : TkG w.drew w' p m lim K S S' M c E E' most ov) : TkG w w' p m lim K S S' M c E E' most ov := ⟨h.lg, kl_un h.kl, h.fo, h.rem, h.ot, h.out, h.new⟩
theorem RtP.un {w w' : World} {r : Nat} {lim K : Int} {ws ws' : List Wa} {most : Nat} {v' ov : Value} (h : RtP w.drew w' r lim K ws ws' most v' ov) : RtP w w' r lim K ws ws' most v' ov := ⟨h.rl, h.nv, kl_un h.kl, h.out, h.no, h.lf⟩
theorem PtG.un {w w' : World} {p m : Nat} {lim K : Int} {S S' : Pm} {M c' : Nat} {E' : List En} {s : Sg} {y : Sv} {hx' tx' : List Xr} {lo hi : Nat} (h : PtG w.drew w' p m lim K S S' M c' E' s y hx' tx' lo hi) : PtG w w' p m lim K S S' M c' E' s y hx' tx' lo hi := ⟨h.ys, h.lg, h.wt, h.ot, h.fo, kl_un h.kl, h.l0, h.h0, h.nf, h.st⟩
theorem RpP.un {w w' : World} {r : Nat} {lim K : Int} {v v' : Value} {ws : List Wa} {s : Sg} {y : Sv} {lo hi : Nat} (h : RpP w.drew w' r lim K v v' ws s y lo hi) : RpP w w' r lim K v v' ws s y lo hi := ⟨h.ys, h.rl, h.at', kl_un h.kl, h.l0, h.h0, h.nf, h.sl, h.st⟩
/-- How many the document's Take leaves. -/
theorem all_peers : ∀ l : List Wa, ∃ v : List Int, v.Nodup ∧ ∀ x ∈ l, x.p ∈ v
  | [] => ⟨[], List.nodup_nil, fun x hx => (by cases hx)⟩
  | a :: r => by
    obtain ⟨v, h1, h2⟩ := all_peers r
    by_cases e : a.p ∈ v
    · exact ⟨v, h1, fun x hx => (List.mem_cons.mp hx).elim (fun e2 => by rw [e2]; exact e) (h2 x)⟩
    · exact ⟨a.p :: v, List.nodup_cons.mpr ⟨e, h1⟩, fun x hx => (List.mem_cons.mp hx).elim (fun e2 => by rw [e2]; exact List.mem_cons_self) (fun hx => List.mem_cons_of_mem _ (h2 x hx))⟩
theorem lf_len {K : Int} {most : Nat} {ws L : List Wa} (h : LfI K most ws ws.length L) : L.length + ((Pf K ws 3).take most).length = ws.length := by
  obtain ⟨v, hv, hc⟩ := all_peers ws
  have e1 := cF_sum (fun _ => true) hv ws hc
  have e2 := cF_sum (fun _ => true) hv L (fun x hx => hc x (h.mem x hx))
  have ft : ∀ l : List Wa, l.filter (fun _ => true) = l := fun l => List.filter_eq_self.mpr (fun _ _ => rfl)
  rw [ft] at e1 e2
  have key : ∀ K', cF (fun _ => true) K' L + (if K' = K then ((Pf K ws 3).take most).length else 0) = cF (fun _ => true) K' ws := fun K' => by
    rw [← wcn_cF, ← wcn_cF, wcn_fk, wcn_fk]
    by_cases e : K' = K
    · subst e
      rw [if_pos rfl, h.me 0 (by omega), h.me 1 (by omega), h.me 2 (by omega), List.take_length]
      simp only [List.length_drop, List.length_take, Pf, List.length_append, List.length_nil]
      omega
    · rw [if_neg e, h.ot K' 0 e, h.ot K' 1 e, h.ot K' 2 e, List.take_length]
      rfl
  have e3 : (v.map fun K' => cF (fun _ => true) K' L + (if K' = K then ((Pf K ws 3).take most).length else 0)).sum = (v.map fun K' => cF (fun _ => true) K' ws).sum := sum_congr key v
  rw [sum_add, e1, e2, sum_one (K0 := K) (a := ((Pf K ws 3).take most).length) (fun K' hK => if_neg hK) (if_pos rfl) hv] at e3
  by_cases hK : K ∈ v
  · rw [if_pos hK] at e3; exact e3
  · have e0 : (Pf K ws 3).length = 0 := by
      have h0 := wcn_fk K ws
      have h1 : wcn K ws = 0 := by
        unfold wcn
        rw [List.length_eq_zero_iff, List.filter_eq_nil_iff]
        intro x hx hp
        exact hK (by rw [← of_decide_eq_true hp]; exact hc x hx)
      simp only [Pf, List.length_append, List.length_nil]
      omega
    rw [if_neg hK] at e3
    rw [List.length_take]
    omega
theorem li_start {w w7 : World} {pl : Nat → Plc} {pa ma ra pb mb rb bl br : Nat} {one two : Int} (h : Py w w7 pl 0 (X0 pa ma ra one pb mb rb two) (.slice none 0 0) [] [] (.slice none 0 0) [] bl br) : LI w w7 bl br 0 (.slice none 0 0) (.slice none 0 0) := by
  refine ⟨_, _, [], [], fun k hk => ?_, h, rfl, by simp [X0, sd0]⟩
  have e : k = 0 ∨ k = 1 := by omega
  rcases e with rfl | rfl <;> exact fun K i hi => rfl

end Go.Proofs.YtdfdaambfihjaaaDoor.L
