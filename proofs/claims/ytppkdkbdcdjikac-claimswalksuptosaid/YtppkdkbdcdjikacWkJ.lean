import Derived.Test.YtppkdkbdcdjikacWka
import Derived.Test.YtppkdkbdcdjikacItq
import Derived.Test.YtppkdkbdcdjikacStp
namespace Go.Proofs.Ytppkdkbdcdjikac
open Go.RowKit Go.Shelf
set_option linter.unusedVariables false

/-- What the three walks stand on: the boxes of stop and want, the pieces, the iterator's boxes and spans. -/
structure Wc where
  (sb bw base N Bs Bl cc2 : Nat)
  (stop s1 s2 : Int)
  vw : Value
  L : List Pz
  a2 : Option Addr
  xs : List Sp
  w : World
structure WJ (c : Wc) (ds : List Nat) (bt : Nat) (m e : Int) (ok : Bool) (tn : Int) (W : World) : Prop where
  st : W.heap[c.sb]? = some (.cells #[.int .i64 c.stop] 3 (0, 0))
  wb : W.heap[c.bw]? = some (.cells #[c.vw] 45 (0, 0))
  pl : POwn W c.base c.vw c.L
  mb : W.heap[c.N]? = some (.cells #[.int .i64 m] 3 (0, 0))
  eb : W.heap[c.N + 1]? = some (.cells #[.int .i64 e] 3 (0, 0))
  ob : W.heap[c.N + 2]? = some (.cells #[.bool ok] 4 (0, 0))
  tb : W.heap[bt]? = some (.cells #[.int .i64 tn] 3 (0, 0))
  bs : W.heap[c.Bs]? = some (.cells #[.int .i64 c.s1, .int .i64 c.s2] 24 (0, 0))
  bl : W.heap[c.Bl]? = some (.cells #[.slice c.a2 c.xs.length c.cc2] 22 (0, 0))
  sx : Spl c.N W c.a2 c.xs
  low : Below c.w.heap.size c.w W
  hds : ∀ D ∈ ds, c.N ≤ D ∧ W.heap[D]? = some (.deferred (some []))
  nd : ds.Nodup
  hsb : c.sb < c.N
  hbw : c.bw < c.N
  hBs : c.Bs < c.N
  hBl : c.Bl < c.N
  hN : c.w.heap.size ≤ c.N
  hbt : c.N + 3 ≤ bt
  hpl : ∀ k, c.vw.ownBlock = some k → k < c.N

theorem POwn.block {w w' : World} {base : Nat} {v : Value} {l : List Pz} (h : POwn w base v l) (hb : ∀ k, v.ownBlock = some k → w'.heap[k]? = w.heap[k]?) : POwn w' base v l := by
  obtain ⟨h1, h2 | ⟨g, cap, cur, rfl, h3, h4, r⟩⟩ := h
  · exact ⟨h1, .inl h2⟩
  · exact ⟨h1, .inr ⟨g, cap, cur, rfl, h3, (hb g rfl).trans h4, r⟩⟩
theorem POwn.isCells {w : World} {base : Nat} {v : Value} {l : List Pz} (h : POwn w base v l) : ∀ k, v.ownBlock = some k → ∃ cs ty fr, w.heap[k]? = some (.cells cs ty fr) := by
  intro k hk
  obtain ⟨_, ⟨rfl, _⟩ | ⟨g, cap, cur, rfl, _, h4, _⟩⟩ := h
  · cases hk
  · cases hk; exact ⟨_, _, _, h4⟩
/-- All that WJ speaks of stays. -/
theorem WJ.keep {c : Wc} {ds : List Nat} {bt : Nat} {m e tn : Int} {ok : Bool} {W W' : World} (h : WJ c ds bt m e ok tn W) (hb : Below c.N W W') (h1 : W'.heap[c.N]? = W.heap[c.N]?) (h2 : W'.heap[c.N + 1]? = W.heap[c.N + 1]?) (h3 : W'.heap[c.N + 2]? = W.heap[c.N + 2]?) (h4 : W'.heap[bt]? = W.heap[bt]?)
    (h5 : ∀ D ∈ ds, W'.heap[D]? = W.heap[D]?) : WJ c ds bt m e ok tn W' :=
  { st := (hb.block _ h.hsb).trans h.st, wb := (hb.block _ h.hbw).trans h.wb, pl := h.pl.block (fun k hk => hb.block k (h.hpl k hk)), mb := h1.trans h.mb, eb := h2.trans h.eb, ob := h3.trans h.ob, tb := h4.trans h.tb,
    bs := (hb.block _ h.hBs).trans h.bs, bl := (hb.block _ h.hBl).trans h.bl, sx := h.sx.keep hb, low := h.low.trans (hb.mono h.hN), hds := fun D hD => ⟨(h.hds D hD).1, (h5 D hD).trans (h.hds D hD).2⟩, nd := h.nd, hsb := h.hsb, hbw := h.hbw, hBs := h.hBs, hBl := h.hBl, hN := h.hN, hbt := h.hbt, hpl := h.hpl }
theorem WJ.own {c : Wc} {ds : List Nat} {bt B : Nat} {β : Type} {F : β → Int × Int × Bool × Int} {G : β → Prop} (hB : c.N ≤ B) (hd : ∀ D ∈ ds, D < B) : OwnFrom B (fun (s : β) W => WJ c ds bt (F s).1 (F s).2.1 (F s).2.2.1 (F s).2.2.2 W ∧ G s) := by
  intro s X Y row hs hg hr
  obtain ⟨h, hG⟩ := hs
  have hbel : Below c.N X Y := ⟨hg.os, hg.tape, hg.output, hg.size, fun k hk => by
    by_cases hkl : k < X.heap.size
    · exact hg.block k hkl (fun e => by have := (hr k e.symm).1; omega)
    · have := (Array.getElem?_eq_some_iff.1 h.mb).1; omega⟩
  have hc : ∀ (k : Nat) (cs : Array Value) (ty : TypeId) (fr : Nat × Nat), X.heap[k]? = some (Obj.cells cs ty fr) → Y.heap[k]? = X.heap[k]? := fun k cs ty fr e => (cells_keep e hg hr).trans e.symm
  exact ⟨h.keep hbel (hc _ _ _ _ h.mb) (hc _ _ _ _ h.eb) (hc _ _ _ _ h.ob) (hc _ _ _ _ h.tb) (fun D hD => hg.block D (Array.getElem?_eq_some_iff.1 (h.hds D hD).2).1 (fun e => by have := (hr D e.symm).1; have := hd D hD; omega)), hG⟩
theorem WJ.alloc {c : Wc} {ds : List Nat} {bt : Nat} {m e tn : Int} {ok : Bool} {W : World} (h : WJ c ds bt m e ok tn W) (o : Obj) : WJ c ds bt m e ok tn (W.alloc o) := by
  have hl : ∀ k x, W.heap[k]? = some x → (W.alloc o).heap[k]? = W.heap[k]? := fun k x e => Below.heap_alloc W o k (Array.getElem?_eq_some_iff.1 e).1
  have hs := (Array.getElem?_eq_some_iff.1 h.mb).1
  exact h.keep ((Below.refl _ W).alloc (by omega) o) (hl _ _ h.mb) (hl _ _ h.eb) (hl _ _ h.ob) (hl _ _ h.tb) (fun D hD => hl _ _ (h.hds D hD).2)
theorem WJ.drew {c : Wc} {ds : List Nat} {bt : Nat} {m e tn : Int} {ok : Bool} {W : World} (h : WJ c ds bt m e ok tn W) : WJ c ds bt m e ok tn W.drew :=
  h.keep ⟨rfl, rfl, rfl, Nat.le_refl _, fun _ _ => rfl⟩ rfl rfl rfl rfl (fun _ _ => rfl)
theorem below_set {n₀ k : Nat} {W : World} (hk : n₀ ≤ k) (i : Nat) (v : Value) : Below n₀ W (W.setCell ⟨k, i, none⟩ v) := ⟨rfl, rfl, rfl, by simp, fun j hj => heap_setCell_other _ _ _ _ (by simp; omega)⟩
theorem WJ.setM {c : Wc} {ds : List Nat} {bt : Nat} {m e tn : Int} {ok : Bool} {W : World} (h : WJ c ds bt m e ok tn W) (m' : Int) : WJ c ds bt m' e ok tn (W.setCell ⟨c.N, 0, none⟩ (.int .i64 m')) := by
  have ho : ∀ k, k ≠ c.N → (W.setCell ⟨c.N, 0, none⟩ (.int .i64 m')).heap[k]? = W.heap[k]? := fun k hk => heap_setCell_other _ _ _ _ hk
  have hb := h.hbt
  have hd : ∀ D ∈ ds, (W.setCell ⟨c.N, 0, none⟩ (.int .i64 m')).heap[D]? = W.heap[D]? := fun D hD => ho D (fun e => by have := (h.hds D hD).2; rw [e, h.mb] at this; cases this)
  have hbel := below_set (n₀ := c.N) (W := W) (Nat.le_refl c.N) 0 (.int .i64 m')
  exact { st := (hbel.block _ h.hsb).trans h.st, wb := (hbel.block _ h.hbw).trans h.wb, pl := h.pl.block (fun k hk => hbel.block k (h.hpl k hk)), mb := (heap_setCell_same _ _ 0 _ _ _ h.mb).trans (by simp), eb := (ho _ (by omega)).trans h.eb, ob := (ho _ (by omega)).trans h.ob, tb := (ho _ (by omega)).trans h.tb, bs := (hbel.block _ h.hBs).trans h.bs, bl := (hbel.block _ h.hBl).trans h.bl, sx := h.sx.keep hbel, low := h.low.trans (hbel.mono h.hN), hds := fun D hD => ⟨(h.hds D hD).1, (hd D hD).trans (h.hds D hD).2⟩, nd := h.nd, hsb := h.hsb, hbw := h.hbw, hBs := h.hBs, hBl := h.hBl, hN := h.hN, hbt := h.hbt, hpl := h.hpl }
theorem WJ.setE {c : Wc} {ds : List Nat} {bt : Nat} {m e tn : Int} {ok : Bool} {W : World} (h : WJ c ds bt m e ok tn W) (e' : Int) : WJ c ds bt m e' ok tn (W.setCell ⟨c.N + 1, 0, none⟩ (.int .i64 e')) := by
  have ho : ∀ k, k ≠ c.N + 1 → (W.setCell ⟨c.N + 1, 0, none⟩ (.int .i64 e')).heap[k]? = W.heap[k]? := fun k hk => heap_setCell_other _ _ _ _ hk
  have hb := h.hbt
  have hd : ∀ D ∈ ds, (W.setCell ⟨c.N + 1, 0, none⟩ (.int .i64 e')).heap[D]? = W.heap[D]? := fun D hD => ho D (fun e => by have := (h.hds D hD).2; rw [e, h.eb] at this; cases this)
  have hbel := below_set (n₀ := c.N) (W := W) (k := c.N + 1) (by omega) 0 (.int .i64 e')
  exact { st := (hbel.block _ h.hsb).trans h.st, wb := (hbel.block _ h.hbw).trans h.wb, pl := h.pl.block (fun k hk => hbel.block k (h.hpl k hk)), eb := (heap_setCell_same _ _ 0 _ _ _ h.eb).trans (by simp), mb := (ho _ (by omega)).trans h.mb, ob := (ho _ (by omega)).trans h.ob, tb := (ho _ (by omega)).trans h.tb, bs := (hbel.block _ h.hBs).trans h.bs, bl := (hbel.block _ h.hBl).trans h.bl, sx := h.sx.keep hbel, low := h.low.trans (hbel.mono h.hN), hds := fun D hD => ⟨(h.hds D hD).1, (hd D hD).trans (h.hds D hD).2⟩, nd := h.nd, hsb := h.hsb, hbw := h.hbw, hBs := h.hBs, hBl := h.hBl, hN := h.hN, hbt := h.hbt, hpl := h.hpl }
theorem WJ.setO {c : Wc} {ds : List Nat} {bt : Nat} {m e tn : Int} {ok : Bool} {W : World} (h : WJ c ds bt m e ok tn W) (b' : Bool) : WJ c ds bt m e b' tn (W.setCell ⟨c.N + 2, 0, none⟩ (.bool b')) := by
  have ho : ∀ k, k ≠ c.N + 2 → (W.setCell ⟨c.N + 2, 0, none⟩ (.bool b')).heap[k]? = W.heap[k]? := fun k hk => heap_setCell_other _ _ _ _ hk
  have hb := h.hbt
  have hd : ∀ D ∈ ds, (W.setCell ⟨c.N + 2, 0, none⟩ (.bool b')).heap[D]? = W.heap[D]? := fun D hD => ho D (fun e => by have := (h.hds D hD).2; rw [e, h.ob] at this; cases this)
  have hbel := below_set (n₀ := c.N) (W := W) (k := c.N + 2) (by omega) 0 (.bool b')
  exact { st := (hbel.block _ h.hsb).trans h.st, wb := (hbel.block _ h.hbw).trans h.wb, pl := h.pl.block (fun k hk => hbel.block k (h.hpl k hk)), ob := (heap_setCell_same _ _ 0 _ _ _ h.ob).trans (by simp), mb := (ho _ (by omega)).trans h.mb, eb := (ho _ (by omega)).trans h.eb, tb := (ho _ (by omega)).trans h.tb, bs := (hbel.block _ h.hBs).trans h.bs, bl := (hbel.block _ h.hBl).trans h.bl, sx := h.sx.keep hbel, low := h.low.trans (hbel.mono h.hN), hds := fun D hD => ⟨(h.hds D hD).1, (hd D hD).trans (h.hds D hD).2⟩, nd := h.nd, hsb := h.hsb, hbw := h.hbw, hBs := h.hBs, hBl := h.hBl, hN := h.hN, hbt := h.hbt, hpl := h.hpl }
theorem kf_set {B k : Nat} {W : World} {cs : Array Value} {ty : TypeId} {fr : Nat × Nat} (h : W.heap[k]? = some (.cells cs ty fr)) (i : Nat) (v : Value) : KeepsFrom B W (W.setCell ⟨k, i, none⟩ v) :=
  ⟨by simp, fun j o _ hj hc => (heap_setCell_other _ _ _ _ (fun e => by have e' : j = k := e; rw [e', h] at hj; cases hj; cases hc)).trans hj⟩
theorem kps_set {n₀ b k : Nat} {W : World} (h1 : n₀ ≤ k) (h2 : b ≠ k) (i : Nat) (v : Value) : Kps n₀ b W (W.setCell ⟨k, i, none⟩ v) := ⟨below_set h1 i v, heap_setCell_other _ _ _ _ h2⟩
theorem kf_drew {B : Nat} (W : World) : KeepsFrom B W W.drew := ⟨Nat.le_refl _, fun _ _ _ h _ => h⟩
theorem kps_drew {n₀ b : Nat} (W : World) : Kps n₀ b W W.drew := ⟨⟨rfl, rfl, rfl, Nat.le_refl _, fun _ _ => rfl⟩, rfl⟩
/-- Are these the first pieces? -/
def okP (L pre : List Pz) : Bool := decide (L.take pre.length = pre)
theorem okP_nil (L : List Pz) : okP L [] = true := by simp [okP]
theorem okP_all (L : List Pz) : okP L L = true := by simp [okP]
theorem okP_prefix {L pre : List Pz} (h : pre <+: L) : okP L pre = true := by
  obtain ⟨t, rfl⟩ := h
  simp [okP]
theorem okP_step {L pre : List Pz} {x y : Pz} (hy : L[pre.length]? = some y) : okP L (pre ++ [x]) = (okP L pre && decide (y = x)) := by
  have hl : pre.length < L.length := (List.getElem?_eq_some_iff.mp hy).1
  unfold okP
  rw [List.length_append, List.length_singleton, List.take_add_one, hy]
  have e : (L.take pre.length ++ (some y).toList = pre ++ [x]) ↔ (L.take pre.length = pre ∧ y = x) := by
    constructor
    · intro h
      have h1 := List.append_inj h (by simp; omega)
      exact ⟨h1.1, by simpa using h1.2⟩
    · rintro ⟨h1, h2⟩; rw [h1, h2]; rfl
  rw [decide_eq_decide.mpr e]
  exact Bool.decide_and _ _

def IsT (b : Bool) : Prop := b = true
/-- What a range keeps; at the first turn, that it did not stop so far. -/
def IW (C : Wc) (ds : List Nat) (bt : Nat) (L : List Pz) (e tn stop : Int) (fst : Bool) (pre : List Pz) (W : World) : Prop := WJ C ds bt pre.length e (okP L pre) tn W ∧ (IsT fst → ∀ j : Nat, j < pre.length → (j : Int) ≠ stop)
/-- What stands where it stopped early. -/
def IxW (C : Wc) (ds : List Nat) (bt : Nat) (L : List Pz) (tn stop : Int) (fst : Bool) (c : Code) (pre : List Pz) (W : World) : Prop := IsT fst ∧ c = .exit 2 ∧ ∃ pre0 x, pre = pre0 ++ [x] ∧ WJ C ds bt pre0.length 1 (okP L pre0) tn W ∧ (pre0.length : Int) = stop
theorem IW.own {C : Wc} {ds : List Nat} {bt B : Nat} {L : List Pz} {e tn stop : Int} {fst : Bool} (hB : C.N ≤ B) (hd : ∀ D ∈ ds, D < B) : OwnFrom B (IW C ds bt L e tn stop fst) :=
  WJ.own (F := fun pre : List Pz => ((pre.length : Int), e, okP L pre, tn)) (G := fun pre => IsT fst → ∀ j : Nat, j < pre.length → (j : Int) ≠ stop) hB hd
theorem IxW.own {C : Wc} {ds : List Nat} {bt B : Nat} {L : List Pz} {tn stop : Int} {fst : Bool} (hB : C.N ≤ B) (hd : ∀ D ∈ ds, D < B) (c : Code) : OwnFrom B (IxW C ds bt L tn stop fst c) := fun s X Y row hs hg hr => by
  obtain ⟨e0, e, pre0, x, e2, h, h2⟩ := hs
  exact ⟨e0, e, pre0, x, e2, (WJ.own (β := Unit) (F := fun _ => ((pre0.length : Int), 1, okP L pre0, tn)) (G := fun _ => True) hB hd () X Y row ⟨h, trivial⟩ hg hr).1, h2⟩

theorem WJ.mark {c : Wc} {ds : List Nat} {bt D : Nat} {m e tn : Int} {ok : Bool} {W : World} (h : WJ c ds bt m e ok tn W) (hD : c.N ≤ D) (hK : W.heap[D]? = some (.deferred (some []))) (hn : ∀ x ∈ ds, x < D) : WJ c (D :: ds) bt m e ok tn W := by
  have hd : ∀ x ∈ D :: ds, c.N ≤ x ∧ W.heap[x]? = some (.deferred (some [])) := fun x hx => by
    rcases List.mem_cons.mp hx with rfl | hx
    · exact ⟨hD, hK⟩
    · exact h.hds x hx
  have hnd : (D :: ds).Nodup := List.nodup_cons.mpr ⟨fun e => by have := hn D e; omega, h.nd⟩
  exact { h with hds := hd, nd := hnd }
/-- The next turn: a box of its own for it, many begins anew. -/
theorem WJ.turn {c : Wc} {ds : List Nat} {bt : Nat} {m e tn : Int} {ok : Bool} {W : World} (h : WJ c ds bt m e ok tn W) (t' : Int) : WJ c ds W.heap.size 0 e ok t' ((W.alloc (.cells #[.int .i64 t'] 3)).setCell ⟨c.N, 0, none⟩ (.int .i64 0)) := by
  have h1 := (h.alloc (.cells #[.int .i64 t'] 3)).setM 0
  have hl := (Array.getElem?_eq_some_iff.1 h.tb).1
  have hb := h.hbt
  have htb : ((W.alloc (.cells #[.int .i64 t'] 3)).setCell ⟨c.N, 0, none⟩ (.int .i64 0)).heap[W.heap.size]? = some (.cells #[.int .i64 t'] 3 (0, 0)) := (heap_setCell_other _ _ _ _ (by show W.heap.size ≠ c.N; omega)).trans (heap_alloc_new' _ _)
  have hbb : c.N + 3 ≤ W.heap.size := by omega
  exact { h1 with tb := htb, hbt := hbb }
/-- Did it stop early just where it had to? -/
def EarlyOk (e stop : Int) (nL : Nat) : Prop := (e = 1 ∧ 0 ≤ stop ∧ stop < (nL : Int)) ∨ (e = 0 ∧ ¬ (0 ≤ stop ∧ stop < (nL : Int)))

end Go.Proofs.Ytppkdkbdcdjikac
