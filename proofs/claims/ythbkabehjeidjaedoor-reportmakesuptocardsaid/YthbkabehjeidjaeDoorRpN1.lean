import Derived.Test.YthbkabehjeidjaeDoorRq5
import Derived.Test.YthbkabehjeidjaeDoorRpMs
import Derived.Lib.LazyBuf
namespace Go.Proofs.YthbkabehjeidjaeDoor
open Go.RowKit
set_option linter.unusedVariables false
set_option linter.unusedSimpArgs false

theorem one_lit5 (W : World) (a : Option Addr) (n c : Nat) : ∀ j u, [Value.slice a n c][j]? = some u → (W.alloc (.cells #[.slice a n c] 26)).cell? ((⟨W.heap.size, 0, none⟩ : Addr).add j) = some u := by
  intro j u hj
  rw [add_n5, Nat.zero_add, cell_of_row _ W.heap.size j _ _ _ (al_new W _), ← hj, ← Array.getElem?_toList]

set_option maxRecDepth 100000 in
set_option maxHeartbeats 8000000 in
/-- All lists of reports, more of them. -/
theorem claims5_any (vo : Value) (VL : List Value) (base : Nat) (a : Option Addr) (n c : Nat) (os : List R5o) (w : World) (hrow : w.ownsRow base 26 1 vo VL.length VL) (hbase : base ≤ w.heap.size) (hm : VL.length ≤ 100000) (hn : os.length = n) (hn2 : n ≤ 2000)
    (hl : ∀ V, Below base w V → ∀ (j : Nat) o, os[j]? = some o → ∃ g, a = some ⟨g, 0, none⟩ ∧ V.cell? ⟨g, j * 5 + 4, none⟩ = some (.slice o.a o.r.clm.length o.c)) :
    Calls Tryd.prog 29 #[vo, .slice a n c] w fun e w' => ∃ v', e = .returned v' ∧ w'.ownsRow base 26 1 v' (VL.length + n) (VL ++ os.map R5o.cv) ∧ Below base w w' := by
  obtain ⟨i0, hi0, hz0, hy0, hb0⟩ := info_parts C.Tryd.info_spans5
  have HRow : Hid (w.ownsRow base 26 1 vo VL.length VL) := hrow
  have HN : Hid (os.length = n) := hn
  have HLk : Hid (∀ V, Below base w V → ∀ (j : Nat) o, os[j]? = some o → ∃ g, a = some ⟨g, 0, none⟩ ∧ V.cell? ⟨g, j * 5 + 4, none⟩ = some (.slice o.a o.r.clm.length o.c)) := hl
  obtain ⟨M, hM⟩ : ∃ M, VL.length = M := ⟨_, rfl⟩
  have HM : Hid (VL.length = M) := hM
  rw [hM] at hm ⊢
  clear hrow hn hl hM
  go_enter Tryd.func29, Tryd.ntmps29
  go_wp2_with fail
  go_loopw [0, 5] (fun v i wr => ∃ (j : Nat) (av : Option Addr) (cv : Nat), j ≤ n ∧ i = .int .i64 j ∧ v = .slice av (M + j) cv ∧ Hid (wr.ownsRow base 26 1 (.slice av (M + j) cv) (M + j) (VL ++ (os.take j).map R5o.cv) ∧ Below base w wr)) (fun _ i _ => n - (intOf i).toNat)
  case atStart =>
    obtain ⟨av, cv, hv⟩ := own_sl5 HRow.out
    rw [HM.out] at hv
    have HR0 := HRow.out
    rw [hv, HM.out] at HR0
    have HR1 : Hid (w.ownsRow base 26 1 (.slice av (M + 0) cv) (M + 0) (VL ++ (os.take 0).map R5o.cv)) := by simpa [Hid] using HR0
    exact ⟨0, av, cv, Nat.zero_le _, rfl, hv, hid_and HR1 (Below.refl _ _)⟩
  case round =>
    obtain ⟨j, av, cv, hj, rfl, rfl, HJ⟩ := hrel
    by_cases hlt : j < n
    · have hlt' : (j : Int) < (n : Int) := by omega
      obtain ⟨o, ho⟩ := get_one os j (by rw [HN.out]; exact hlt)
      obtain ⟨g, rfl, hcl⟩ := HLk.out wr HJ.out.2 j o ho
      have HO : Hid (os[j]? = some o) := ho
      obtain ⟨K, hK⟩ : ∃ K, o.r.clm.length = K := ⟨_, rfl⟩
      have HK : Hid (o.r.clm.length = K) := hK
      rw [hK] at hcl
      have HR2 : Hid ((wr.alloc (.cells #[.slice o.a K o.c] 26)).ownsRow base 26 1 (.slice av (M + j) cv) (M + j) (VL ++ (os.take j).map R5o.cv)) := C.own_blk2 HJ.out.1 (fun q hq => ((Below.refl wr.heap.size wr).alloc (Nat.le_refl _) (.cells #[.slice o.a K o.c] 26)).block q (HJ.out.1.lt q hq).2)
      have hwz : base ≤ wr.heap.size := Nat.le_trans hbase HJ.out.2.size
      clear ho hK
      go_wp2_with (at_builtin; refine wpList_append_own_at _ rfl _ _ 67 rfl base 26 i0 _ 1 24 Tryd.underlying67 hi0 hz0 hy0 hb0 rfl (by decide) _ _ _ rfl HR2.out ⟨wr.heap.size, 0, none⟩ 1 1 [.slice o.a K o.c] rfl rfl (one_lit5 _ _ _ _) (by intro u hu; simp at hu; subst hu; rfl) (by unfold maxLen; omega) (by omega) (by simp; omega) ?_; intro v6 w6 o6 g6 _ t6; obtain ⟨a6, c6, rfl⟩ := own_sl5 o6)
      have HJ6 : Hid (w6.ownsRow base 26 1 (.slice a6 (M + j + 1) c6) (M + j + 1) (VL ++ (os.take (j + 1)).map R5o.cv)) := by
        have e : (os.take (j + 1)).map R5o.cv = (os.take j).map R5o.cv ++ [.slice o.a K o.c] := by
          rw [List.take_add_one, HO.out, List.map_append, ← HK.out]
          rfl
        show World.ownsRow _ _ _ _ _ _ _
        rw [e, ← List.append_assoc]
        exact o6
      have HB6 : Hid (Below base w w6) := ⟨g6.os.trans HJ.out.2.os, g6.tape.trans HJ.out.2.tape, g6.output.trans HJ.out.2.output, Nat.le_trans HJ.out.2.size (Nat.le_trans (by simp) g6.size), fun q hq => (g6.block q (by simp; omega) (fun e => by have := (HJ.out.1.lt q e.symm).1; omega)).trans ((((Below.refl wr.heap.size wr).alloc (Nat.le_refl _) (.cells #[.slice o.a K o.c] 26)).block q (by omega)).trans (HJ.out.2.block q hq))⟩
      clear o6 g6 t6 hcl HR2
      go_wp2
      go_roundw
      case rel => exact ⟨j + 1, a6, c6, by omega, by go_num, rfl, hid_and HJ6 HB6⟩
      case measure => simp [intOf]; omega
    · have hlt' : ¬ (j : Int) < (n : Int) := by omega
      obtain rfl : j = n := by omega
      have HF : Hid (wr.ownsRow base 26 1 (.slice av (M + j) cv) (M + j) (VL ++ os.map R5o.cv)) := by
        have h := HJ.out.1
        rw [List.take_of_length_le (by rw [HN.out]; exact Nat.le_refl _)] at h
        exact h
      go_wp2
      go_ret
      exact ⟨_, rfl, HF.out, HJ.out.2⟩

end Go.Proofs.YthbkabehjeidjaeDoor

namespace Go.Proofs.YthbkabehjeidjaeDoor
open Go.RowKit
set_option linter.unusedVariables false
set_option linter.unusedSimpArgs false

theorem btr {a b c : World} (h : Below a.heap.size a b) (k : Below b.heap.size b c) : Below a.heap.size a c := h.trans (k.mono h.size)
/-- An answer of Make in a later world: between which blocks it lies. -/
structure Ra (w : World) (lo tp : Nat) (a : Option Addr) (n c : Nat) (os : List R5o) (rs : List Rr) : Prop where
  r5 : R5 w lo (.slice a n c) os
  eq : rs = os.map R5o.r
  len : os.length = n
  few : ∀ r ∈ rs, r.clm.length ≤ 1000
  n2 : n ≤ 2000
  hi : ∀ g, (Value.slice a n c).ownBlock = some g → g < tp
  his : ∀ (i : Nat) o g, os[i]? = some o → o.cv.ownBlock = some g → g < tp
theorem Ra.of {er : Int} {rs : List Rr} {w w' : World} {e : Ending} (h : MkP er rs w e w') : ∃ a n c os, e = .returned (.tuple #[.slice a n c, .int .i64 er]) ∧ Ra w' w.heap.size w'.heap.size a n c os rs ∧ Below w.heap.size w w' := by
  obtain ⟨a, c, os, rfl, h1, h2, h3, h4, h5⟩ := h
  have hl : os.length = rs.length := by rw [h1, List.length_map]
  exact ⟨a, rs.length, c, os, rfl, ⟨h2, h1, hl, h3, h4, fun g hg => (h2.row.lt g hg).2, fun i o g hi hg => ((h2.own i o hi).lt g hg).2⟩, h5⟩
theorem Ra.same {w w' : World} {lo hi n c : Nat} {a : Option Addr} {os : List R5o} {rs : List Rr} (h : Ra w lo hi a n c os rs) (hb : ∀ g, lo ≤ g → g < hi → w'.heap[g]? = w.heap[g]?) : Ra w' lo hi a n c os rs :=
  ⟨h.r5.same (fun g hg => hb g (h.r5.row.lt g hg).1 (h.hi g hg)) (fun i o g hi hg => hb g ((h.r5.own i o hi).lt g hg).1 (h.his i o g hi hg)), h.eq, h.len, h.few, h.n2, h.hi, h.his⟩
theorem Ra.below {w w' : World} {lo hi n c : Nat} {a : Option Addr} {os : List R5o} {rs : List Rr} (h : Ra w lo hi a n c os rs) (hb : Below w.heap.size w w') : Ra w' lo hi a n c os rs :=
  ⟨h.r5.below hb, h.eq, h.len, h.few, h.n2, h.hi, h.his⟩
theorem Ra.rl {w : World} {lo hi n c : Nat} {a : Option Addr} {os : List R5o} {rs : List Rr} (h : Ra w lo hi a n c os rs) : RL5 w a rs ∧ rs.length = n := by
  obtain ⟨a', c', hv, hr⟩ := h.r5.rl (fun o ho => by have := h.few o.r (by rw [h.eq]; exact List.mem_map_of_mem ho); omega)
  simp only [Value.slice.injEq] at hv
  obtain ⟨rfl, _, rfl⟩ := hv
  rw [← h.eq] at hr
  exact ⟨hr, by rw [h.eq, List.length_map, h.len]⟩
theorem Ra.cell {w : World} {lo hi n c : Nat} {a : Option Addr} {os : List R5o} {rs : List Rr} (h : Ra w lo hi a n c os rs) {j : Nat} {r : Rr} (hr : rs[j]? = some r) : ∃ g, a = some ⟨g, 0, none⟩ ∧ lo ≤ g ∧ g < hi ∧ w.cell? ⟨g, j * 5, none⟩ = some (.int .i64 r.ser) := by
  rw [h.eq, List.getElem?_map] at hr
  obtain ⟨o, ho, rfl⟩ := Option.map_eq_some_iff.mp hr
  have hj : j < os.length := (List.getElem?_eq_some_iff.mp ho).1
  have hn := h.len
  obtain ⟨g, cap, hv2⟩ := C.own_some h.r5.row (by omega)
  simp only [Value.slice.injEq] at hv2
  obtain ⟨rfl, rfl, rfl⟩ := hv2
  have := rpC_at ho 0 _ rfl
  exact ⟨g, rfl, (h.r5.row.lt g rfl).1, h.hi g rfl, (h.r5.row.cellAt _ (by omega)).trans this⟩
theorem Ra.clm {w : World} {lo hi n c : Nat} {a : Option Addr} {os : List R5o} {rs : List Rr} (h : Ra w lo hi a n c os rs) {B : Nat} (hB : hi ≤ B) : ∀ V, Below B w V → ∀ (j : Nat) o, os[j]? = some o → ∃ g, a = some ⟨g, 0, none⟩ ∧ V.cell? ⟨g, j * 5 + 4, none⟩ = some (.slice o.a o.r.clm.length o.c) := by
  intro V hV j o ho
  have hj : j < os.length := (List.getElem?_eq_some_iff.mp ho).1
  have hn := h.len
  obtain ⟨g, cap, hv2⟩ := C.own_some h.r5.row (by omega)
  simp only [Value.slice.injEq] at hv2
  obtain ⟨rfl, rfl, rfl⟩ := hv2
  have hgb := h.hi g rfl
  refine ⟨g, rfl, ?_⟩
  rw [World.cell?_of_block (a := ⟨g, j * 5 + 4, none⟩) (hV.block g (by omega))]
  exact (h.r5.row.cellAt _ (by omega)).trans (rpC_at ho 4 _ rfl)
theorem Ra.mem {w : World} {lo hi n c : Nat} {a : Option Addr} {os : List R5o} {rs : List Rr} (h : Ra w lo hi a n c os rs) {o : R5o} (ho : o ∈ os) : C.SOwn w lo o.cv o.r.clm ∧ (∀ g, o.cv.ownBlock = some g → lo ≤ g ∧ g < hi) ∧ o.r.clm.length ≤ 1000 := by
  obtain ⟨i, hi'⟩ := List.getElem?_of_mem ho
  exact ⟨h.r5.own i o hi', fun g hg => ⟨((h.r5.own i o hi').lt g hg).1, h.his i o g hi' hg⟩, h.few o.r (by rw [h.eq]; exact List.mem_map_of_mem ho)⟩
/-- No two of the rows share a block. -/
def Prt (l : List Value) : Prop := l.Pairwise (fun v u => ∀ g, v.ownBlock = some g → u.ownBlock ≠ some g)
theorem Prt.idx {l : List Value} (h : Prt l) : ∀ (i j : Nat) v u g, l[i]? = some v → l[j]? = some u → v.ownBlock = some g → u.ownBlock = some g → i = j := by
  have h' := List.pairwise_iff_getElem.mp h
  intro i j v u g hi hj hv hu
  obtain ⟨hil, rfl⟩ := List.getElem?_eq_some_iff.mp hi
  obtain ⟨hjl, rfl⟩ := List.getElem?_eq_some_iff.mp hj
  rcases Nat.lt_trichotomy i j with q | q | q
  · exact absurd hu (h' i j hil hjl q g hv)
  · exact q
  · exact absurd hv (h' j i hjl hil q g hu)
theorem Ra.prt {w : World} {lo hi n c : Nat} {a : Option Addr} {os : List R5o} {rs : List Rr} (h : Ra w lo hi a n c os rs) : Prt (os.map R5o.cv) := by
  refine List.pairwise_iff_getElem.mpr fun i j hi hj hlt g hg hg2 => ?_
  rw [List.length_map] at hi hj
  rw [List.getElem_map] at hg hg2
  have := h.r5.sep i j os[i] os[j] g (List.getElem?_eq_getElem hi) (List.getElem?_eq_getElem hj) hg hg2
  omega
theorem prt_app {l m : List Value} (hl : Prt l) (hm : Prt m) (h : ∀ v ∈ l, ∀ u ∈ m, ∀ g, v.ownBlock = some g → u.ownBlock ≠ some g) : Prt (l ++ m) := List.pairwise_append.mpr ⟨hl, hm, h⟩
/-- What alone is written by Owned: the rows' own blocks. -/
structure Kx (vs : List Value) (w w' : World) : Prop where
  os : w'.os = w.os
  tape : w'.tape = w.tape
  output : w'.output = w.output
  size : w.heap.size ≤ w'.heap.size
  block : ∀ g, g < w.heap.size → (∀ v ∈ vs, v.ownBlock ≠ some g) → w'.heap[g]? = w.heap[g]?
theorem owned_list2 {w : World} {B pr cap : Nat} {al : Option Addr} {vs : List Value} {Cs : Nat → List (Int × Int)} (hbx : w.heap[pr]? = some (.cells #[.slice none 0 0, .slice al vs.length cap, .slice none 0 0] 73 (0, 0)))
    (hal : vs = [] ∨ ∃ gl, al = some ⟨gl, 0, none⟩ ∧ (∀ (i : Nat) v, vs[i]? = some v → w.cell? ⟨gl, i, none⟩ = some v) ∧ ∀ v ∈ vs, v.ownBlock ≠ some gl) (hd : Prt vs)
    (ho : ∀ (j : Nat) v, vs[j]? = some v → C.SOwn w B v (Cs j)) (h1 : ∀ v ∈ vs, v.ownBlock ≠ some pr) (hl : vs.length ≤ 1048576) (hc : ∀ j, (Cs j).length ≤ 1048600) :
    Calls Tryd.prog 30 #[.pointer (some ⟨pr, 0, none⟩)] w fun e w' => e = .returned (.bool true) ∧ Kx vs w w' := by
  obtain ⟨own, hown, hzero⟩ := own_tags vs hd.idx
  refine (C.ownedRows_spans pr al cap own vs Cs w hbx (hzero pr (fun j v hj => h1 v (List.mem_of_getElem? hj))) ⟨fun j v _ hv => own_low5 (ho j v hv) (Nat.zero_le _), fun j v g _ hv hg => hown j v g hv hg⟩ ?_ hl hc).mono ?_
  · rcases hal with rfl | ⟨gl, rfl, h2, h3⟩
    · exact .inl rfl
    · exact .inr ⟨gl, 0, rfl, hzero gl (fun j v hj => h3 v (List.mem_of_getElem? hj)), fun i v hv => by rw [Nat.zero_add]; exact h2 i v hv⟩
  · rintro e w' ⟨rfl, hk⟩
    exact ⟨rfl, hk.os, hk.tape, hk.output, hk.size, fun g hg hn => hk.block g hg (hzero g (fun j v hv => hn v (List.mem_of_getElem? hv)))⟩
theorem ask_cells {V : World} {b : Nat} {o n m x y z u : Int} (h : V.heap[b]? = some (.cells #[.int .i64 o, .int .i64 n, .int .i64 m, .int .i64 x, .int .i64 y, .int .i64 z, .int .i64 u] 60 (0, 0))) :
    V.cell? ⟨b, 0, none⟩ = some (.int .i64 o) ∧ V.cell? ⟨b, 1, none⟩ = some (.int .i64 n) ∧ V.cell? ⟨b, 2, none⟩ = some (.int .i64 m) ∧ V.cell? ⟨b, 3, none⟩ = some (.int .i64 x) ∧ V.cell? ⟨b, 4, none⟩ = some (.int .i64 y) ∧ V.cell? ⟨b, 5, none⟩ = some (.int .i64 z) ∧ V.cell? ⟨b, 6, none⟩ = some (.int .i64 u) :=
  ⟨(cell_of_row _ _ _ _ _ _ h).trans rfl, (cell_of_row _ _ _ _ _ _ h).trans rfl, (cell_of_row _ _ _ _ _ _ h).trans rfl, (cell_of_row _ _ _ _ _ _ h).trans rfl, (cell_of_row _ _ _ _ _ _ h).trans rfl, (cell_of_row _ _ _ _ _ _ h).trans rfl, (cell_of_row _ _ _ _ _ _ h).trans rfl⟩

/-- One block alone was written. -/
structure Kr (v : Value) (w w' : World) : Prop where
  os : w'.os = w.os
  tape : w'.tape = w.tape
  output : w'.output = w.output
  size : w'.heap.size = w.heap.size
  block : ∀ g, v.ownBlock ≠ some g → w'.heap[g]? = w.heap[g]?
theorem Kr.refl (v : Value) (w : World) : Kr v w w := ⟨rfl, rfl, rfl, rfl, fun _ _ => rfl⟩
theorem Kr.set {v : Value} {w w' : World} (h : Kr v w w') {g : Nat} (hg : v.ownBlock = some g) (i : Nat) (u : Value) : Kr v w (w'.setCell ⟨g, i, none⟩ u) :=
  ⟨h.os, h.tape, h.output, by rw [← h.size]; simp, fun j hj => (Below.heap_setCell _ _ _ _ (by show j ≠ g; intro e; subst e; exact hj hg)).trans (h.block j hj)⟩
theorem Ra.sers {w w' : World} {lo tp n c : Nat} {a : Option Addr} {os : List R5o} {rs : List Rr} (h : Ra w lo tp a n c os rs) (hk : ∀ g, (Value.slice a n c).ownBlock = some g → w'.heap[g]? = w.heap[g]?) : ∀ (j : Nat) r, rs[j]? = some r → ∃ g, a = some ⟨g, 0, none⟩ ∧ w'.cell? ⟨g, j * 5, none⟩ = some (.int .i64 r.ser) := fun j r hr => by
  obtain ⟨g, rfl, _, _, hc⟩ := h.cell hr
  exact ⟨g, rfl, (World.cell?_of_block (a := ⟨g, j * 5, none⟩) (hk g rfl)).trans hc⟩
theorem Ra.rowlen {w : World} {lo tp n c : Nat} {a : Option Addr} {os : List R5o} {rs : List Rr} (h : Ra w lo tp a n c os rs) : rs.length = n := by rw [h.eq, List.length_map, h.len]
/-- Four answers' claims in one list. -/
theorem four_mem {osX osY osZ osV : List R5o} {v : Value} (hv : v ∈ ((osX.map R5o.cv ++ osY.map R5o.cv) ++ osZ.map R5o.cv) ++ osV.map R5o.cv) : (∃ o ∈ osX, v = o.cv) ∨ (∃ o ∈ osY, v = o.cv) ∨ (∃ o ∈ osZ, v = o.cv) ∨ (∃ o ∈ osV, v = o.cv) := by
  simp only [List.mem_append, List.mem_map] at hv
  rcases hv with ((⟨o, ho, rfl⟩ | ⟨o, ho, rfl⟩) | ⟨o, ho, rfl⟩) | ⟨o, ho, rfl⟩
  · exact .inl ⟨o, ho, rfl⟩
  · exact .inr (.inl ⟨o, ho, rfl⟩)
  · exact .inr (.inr (.inl ⟨o, ho, rfl⟩))
  · exact .inr (.inr (.inr ⟨o, ho, rfl⟩))
section
variable {w : World} {x0 x1 y1 z1 v0 v1 nx ny nz nv cx cy cz cv : Nat} {ax ay az av : Option Addr} {osX osY osZ osV : List R5o} {rx ry rz rv : List Rr}
theorem four_prt (hx : Ra w x0 x1 ax nx cx osX rx) (hy : Ra w x1 y1 ay ny cy osY ry) (hz : Ra w y1 z1 az nz cz osZ rz) (hv : Ra w v0 v1 av nv cv osV rv) (ho : x0 ≤ x1 ∧ x1 ≤ y1 ∧ y1 ≤ z1 ∧ z1 ≤ v0) : Prt (((osX.map R5o.cv ++ osY.map R5o.cv) ++ osZ.map R5o.cv) ++ osV.map R5o.cv) := by
  refine prt_app (prt_app (prt_app hx.prt hy.prt ?_) hz.prt ?_) hv.prt ?_
  · intro a ha b hb g hga hgb
    obtain ⟨p, hp, rfl⟩ := List.mem_map.mp ha
    obtain ⟨q, hq, rfl⟩ := List.mem_map.mp hb
    have := (hx.mem hp).2.1 g hga; have := (hy.mem hq).2.1 g hgb; omega
  · intro a ha b hb g hga hgb
    obtain ⟨q, hq, rfl⟩ := List.mem_map.mp hb
    rcases List.mem_append.mp ha with ha | ha
    · obtain ⟨p, hp, rfl⟩ := List.mem_map.mp ha
      have := (hx.mem hp).2.1 g hga; have := (hz.mem hq).2.1 g hgb; omega
    · obtain ⟨p, hp, rfl⟩ := List.mem_map.mp ha
      have := (hy.mem hp).2.1 g hga; have := (hz.mem hq).2.1 g hgb; omega
  · intro a ha b hb g hga hgb
    obtain ⟨q, hq, rfl⟩ := List.mem_map.mp hb
    rcases List.mem_append.mp ha with ha | ha
    · rcases List.mem_append.mp ha with ha | ha
      · obtain ⟨p, hp, rfl⟩ := List.mem_map.mp ha
        have := (hx.mem hp).2.1 g hga; have := (hv.mem hq).2.1 g hgb; omega
      · obtain ⟨p, hp, rfl⟩ := List.mem_map.mp ha
        have := (hy.mem hp).2.1 g hga; have := (hv.mem hq).2.1 g hgb; omega
    · obtain ⟨p, hp, rfl⟩ := List.mem_map.mp ha
      have := (hz.mem hp).2.1 g hga; have := (hv.mem hq).2.1 g hgb; omega
theorem four_own (hx : Ra w x0 x1 ax nx cx osX rx) (hy : Ra w x1 y1 ay ny cy osY ry) (hz : Ra w y1 z1 az nz cz osZ rz) (hv : Ra w v0 v1 av nv cv osV rv) (ho : x0 ≤ x1 ∧ x1 ≤ y1 ∧ y1 ≤ z1 ∧ z1 ≤ v0) :
    (∀ (j : Nat) v, (((osX.map R5o.cv ++ osY.map R5o.cv) ++ osZ.map R5o.cv) ++ osV.map R5o.cv)[j]? = some v → C.SOwn w x0 v (((((osX ++ osY) ++ osZ) ++ osV)[j]?.map (fun o : R5o => o.r.clm)).getD [])) ∧ (∀ j : Nat, (((((osX ++ osY) ++ osZ) ++ osV)[j]?.map (fun o : R5o => o.r.clm)).getD []).length ≤ 1048600) := by
  have key : ∀ o ∈ ((osX ++ osY) ++ osZ) ++ osV, C.SOwn w x0 o.cv o.r.clm ∧ o.r.clm.length ≤ 1000 := fun o h => by
    simp only [List.mem_append] at h
    rcases h with ((h | h) | h) | h
    · exact ⟨(hx.mem h).1, (hx.mem h).2.2⟩
    · exact ⟨own_low5 (hy.mem h).1 (by omega), (hy.mem h).2.2⟩
    · exact ⟨own_low5 (hz.mem h).1 (by omega), (hz.mem h).2.2⟩
    · exact ⟨own_low5 (hv.mem h).1 (by omega), (hv.mem h).2.2⟩
  constructor
  · intro j v hj
    rw [← List.map_append, ← List.map_append, ← List.map_append, List.getElem?_map] at hj
    obtain ⟨o, h1, rfl⟩ := Option.map_eq_some_iff.mp hj
    rw [h1]
    exact (key o (List.mem_of_getElem? h1)).1
  · intro j
    cases h1 : (((osX ++ osY) ++ osZ) ++ osV)[j]? with
    | none => simp
    | some o => have := (key o (List.mem_of_getElem? h1)).2; simp; omega
end
theorem lit10 (W : World) : ∀ j u, [Value.int .i64 (-8), .int .i64 0, .int .i64 0, .int .i64 0, .slice none 0 0, .int .i64 (-8), .int .i64 0, .int .i64 0, .int .i64 0, .slice none 0 0][j]? = some u → (W.alloc (.cells #[.int .i64 (-8), .int .i64 0, .int .i64 0, .int .i64 0, .slice none 0 0, .int .i64 (-8), .int .i64 0, .int .i64 0, .int .i64 0, .slice none 0 0] 75)).cell? ((⟨W.heap.size, 0, none⟩ : Addr).add j) = some u := by
  intro j u hj
  rw [add_n5, Nat.zero_add, cell_of_row _ W.heap.size j _ _ _ (al_new W _), ← hj, ← Array.getElem?_toList]
theorem one10 : ∀ u ∈ [Value.int .i64 (-8), .int .i64 0, .int .i64 0, .int .i64 0, .slice none 0 0, .int .i64 (-8), .int .i64 0, .int .i64 0, .int .i64 0, .slice none 0 0], u.oneCell' = true := by
  intro u hu
  simp at hu
  rcases hu with rfl | rfl | rfl | rfl | rfl | rfl <;> rfl
theorem run_neq_nil5 {P : Program} (w : World) (t e : TypeId) (a : Option Addr) (l c : Nat) (h : P.underlying t = some (.slice e)) : (binOp .neq t (.slice a l c) (.slice none 0 0)).run P w = .ok (.bool (!a.isNone)) w := Go.run_neq_slice_nil w t e a l c h
theorem row_store5 {w : World} {base g n c j : Nat} {e : TypeId} {xs : List Value} (h : w.ownsRow base e 5 (.slice (some ⟨g, 0, none⟩) n c) n xs) (u0 u1 u2 u3 u4 : Value) : ∃ xs', (((((w.setCell ⟨g, j * 5, none⟩ u0).setCell ⟨g, j * 5 + 1, none⟩ u1).setCell ⟨g, j * 5 + 2, none⟩ u2).setCell ⟨g, j * 5 + 3, none⟩ u3).setCell ⟨g, j * 5 + 4, none⟩ u4).ownsRow base e 5 (.slice (some ⟨g, 0, none⟩) n c) n xs' :=
  ⟨_, (World.ownsRow.stored (World.ownsRow.stored (World.ownsRow.stored (World.ownsRow.stored (World.ownsRow.stored h (j * 5) u0).1 (j * 5 + 1) u1).1 (j * 5 + 2) u2).1 (j * 5 + 3) u3).1 (j * 5 + 4) u4).1⟩
theorem row_cells5 {w : World} {base g n c j : Nat} {e : TypeId} {xs : List Value} (h : w.ownsRow base e 5 (.slice (some ⟨g, 0, none⟩) n c) n xs) (hj : j < n) : ∃ u0 u1 u2 u3 u4, w.cell? ⟨g, j * 5, none⟩ = some u0 ∧ w.cell? ⟨g, j * 5 + 1, none⟩ = some u1 ∧ w.cell? ⟨g, j * 5 + 2, none⟩ = some u2 ∧ w.cell? ⟨g, j * 5 + 3, none⟩ = some u3 ∧ w.cell? ⟨g, j * 5 + 4, none⟩ = some u4 ∧ w.frozen? ⟨g, j * 5, none⟩ = false ∧ w.frozen? ⟨g, j * 5 + 1, none⟩ = false ∧ w.frozen? ⟨g, j * 5 + 2, none⟩ = false ∧ w.frozen? ⟨g, j * 5 + 3, none⟩ = false ∧ w.frozen? ⟨g, j * 5 + 4, none⟩ = false := by
  have hl := h.1
  obtain ⟨u0, h0⟩ := get_one xs (j * 5) (by omega)
  obtain ⟨u1, h1⟩ := get_one xs (j * 5 + 1) (by omega)
  obtain ⟨u2, h2⟩ := get_one xs (j * 5 + 2) (by omega)
  obtain ⟨u3, h3⟩ := get_one xs (j * 5 + 3) (by omega)
  obtain ⟨u4, h4⟩ := get_one xs (j * 5 + 4) (by omega)
  exact ⟨u0, u1, u2, u3, u4, (World.ownsRow.cellAt h _ (by omega)).trans h0, (World.ownsRow.cellAt h _ (by omega)).trans h1, (World.ownsRow.cellAt h _ (by omega)).trans h2, (World.ownsRow.cellAt h _ (by omega)).trans h3, (World.ownsRow.cellAt h _ (by omega)).trans h4, World.ownsRow.frozenAt h _, World.ownsRow.frozenAt h _, World.ownsRow.frozenAt h _, World.ownsRow.frozenAt h _, World.ownsRow.frozenAt h _⟩

set_option maxRecDepth 100000 in
set_option maxHeartbeats 32000000 in
theorem makes_walk (o n mtu lo up ck sr : Int) (a0 a1 : Option Addr) (n0 n1 c0 c1 : Nat) (l m : List (Int × Int)) (W : World) (hT : Tab W) (h1 : C.Ls W (.slice a0 n0 c0) l) (h2 : C.Ls W (.slice a1 n1 c1) m) (hn0 : l.length = n0) (hl : n0 ≤ 1048576) :
    Calls Tryd.prog 5 #[.agg #[.int .i64 o, .int .i64 n, .int .i64 mtu, .int .i64 lo, .int .i64 up, .int .i64 ck, .int .i64 sr], .slice a0 n0 c0, .slice a1 n1 c1] W fun e W' => e = .returned (.bool true) ∧ Below W.heap.size W W' := by
  have h00 : 0 < W.heap.size := World.block_lt_of_cell? W ⟨0, 0, none⟩ (hT 0 (by omega))
  obtain ⟨w0, hW0⟩ : ∃ x, W.alloc (.cells #[.int .i64 o, .int .i64 n, .int .i64 mtu, .int .i64 lo, .int .i64 up, .int .i64 ck, .int .i64 sr] 60) = x := ⟨_, rfl⟩
  have HW0 : Hid (_ = w0) := hW0
  have hb0 : Below W.heap.size W w0 := by rw [← hW0]; exact (Below.refl _ _).alloc (Nat.le_refl _) _
  have HB0 : Hid (Below W.heap.size W w0) := hb0
  have HR0 : Hid (∀ V, Below w0.heap.size w0 V → V.heap[W.heap.size]? = some (.cells #[.int .i64 o, .int .i64 n, .int .i64 mtu, .int .i64 lo, .int .i64 up, .int .i64 ck, .int .i64 sr] 60 (0, 0))) := fun V hV => by
    have h1 : w0.heap[W.heap.size]? = some (.cells #[.int .i64 o, .int .i64 n, .int .i64 mtu, .int .i64 lo, .int .i64 up, .int .i64 ck, .int .i64 sr] 60 (0, 0)) := by rw [← hW0]; exact al_new _ _
    exact (hV.block _ (Array.getElem?_eq_some_iff.1 h1).1).trans h1
  have HL : Hid (C.Ls W (.slice a0 n0 c0) l) := h1
  have HM : Hid (C.Ls W (.slice a1 n1 c1) m) := h2
  have HT : Hid (Tab W) := hT
  have HN0 : Hid (l.length = n0) := hn0
  have hA := awake5_any w0 (hT.below hb0 h00)
  obtain ⟨e1, he1⟩ : ∃ x, (mk5 o n mtu l lo up ck sr).1 = x := ⟨_, rfl⟩
  obtain ⟨r1, hr1⟩ : ∃ x, (mk5 o n mtu l lo up ck sr).2 = x := ⟨_, rfl⟩
  obtain ⟨e2, he2⟩ : ∃ x, (mk5 o n mtu m lo up ck sr).1 = x := ⟨_, rfl⟩
  obtain ⟨r2, hr2⟩ : ∃ x, (mk5 o n mtu m lo up ck sr).2 = x := ⟨_, rfl⟩
  have HP1 : Hid (∀ V v, C.Ls V v l → Calls Tryd.prog 24 #[.agg #[.int .i64 o, .int .i64 n], .int .i64 mtu, v, .int .i64 lo, .int .i64 up, .int .i64 ck, .int .i64 sr] V (MkP e1 r1 V)) := fun V v hv => by rw [← he1, ← hr1]; exact rqMake_any o n mtu v l lo up ck sr V hv
  have HP2 : Hid (∀ V v, C.Ls V v m → Calls Tryd.prog 24 #[.agg #[.int .i64 o, .int .i64 n], .int .i64 mtu, v, .int .i64 lo, .int .i64 up, .int .i64 ck, .int .i64 sr] V (MkP e2 r2 V)) := fun V v hv => by rw [← he2, ← hr2]; exact rqMake_any o n mtu v m lo up ck sr V hv
  have HQ1 : Hid (∀ V v, C.Ls V v l → Below W.heap.size W V → Calls Tryd.prog 26 #[.agg #[.int .i64 o, .int .i64 n], .int .i64 mtu, v, .int .i64 lo, .int .i64 up, .int .i64 ck, .int .i64 sr] V (MkP e1 r1 V)) := fun V v hv hb => by rw [← he1, ← hr1]; exact make5_any o n mtu v l lo up ck sr V hv (hT.below hb h00)
  have HQ2 : Hid (∀ V v, C.Ls V v m → Below W.heap.size W V → Calls Tryd.prog 26 #[.agg #[.int .i64 o, .int .i64 n], .int .i64 mtu, v, .int .i64 lo, .int .i64 up, .int .i64 ck, .int .i64 sr] V (MkP e2 r2 V)) := fun V v hv hb => by rw [← he2, ← hr2]; exact make5_any o n mtu v m lo up ck sr V hv (hT.below hb h00)
  obtain ⟨y0, y1, y2, y3, y4, y5, y6⟩ := ask_cells (HR0.out w0 (Below.refl _ _))
  clear h1 h2 hT hW0 hb0 hn0 he1 hr1 he2 hr2
  go_enter Tryd.func5, Tryd.ntmps5
  go_wp2_with fail
  rw [HW0.out]
  refine hA.mono ?_
  rintro e w1 ⟨rfl, hb1⟩
  have HB1 : Hid (Below w0.heap.size w0 w1) := hb1
  clear y0 y1 y2 y3 y4 y5 y6 hA
  obtain ⟨y0, y1, y2, y3, y4, y5, y6⟩ := ask_cells (HR0.out w1 hb1)
  clear hb1
  have hC2 := HP1.out w1 _ (HL.out.below (btr HB0.out HB1.out))
  go_wp2_with fail
  refine hC2.mono ?_
  intro e w2 hx
  obtain ⟨aW, nW, cW, osW, rfl, hra, hbb⟩ := Ra.of hx
  have HRW : Hid (Ra w2 w1.heap.size w2.heap.size aW nW cW osW r1) := hra
  have HS2 : Hid (Below w1.heap.size w1 w2) := hbb
  have HB2 : Hid (Below w0.heap.size w0 w2) := btr HB1.out hbb
  clear y0 y1 y2 y3 y4 y5 y6 hC2 hx hra hbb
  obtain ⟨y0, y1, y2, y3, y4, y5, y6⟩ := ask_cells (HR0.out w2 HB2.out)
  have hC3 := HP2.out w2 _ (HM.out.below (btr HB0.out HB2.out))
  go_wp2_with fail
  refine hC3.mono ?_
  intro e w3 hx
  obtain ⟨aA, nA, cA, osA, rfl, hra, hbb⟩ := Ra.of hx
  have HRA : Hid (Ra w3 w2.heap.size w3.heap.size aA nA cA osA r2) := hra
  have HS3 : Hid (Below w2.heap.size w2 w3) := hbb
  have HB3 : Hid (Below w0.heap.size w0 w3) := btr HB2.out hbb
  clear y0 y1 y2 y3 y4 y5 y6 hC3 hx hra hbb
  obtain ⟨y0, y1, y2, y3, y4, y5, y6⟩ := ask_cells (HR0.out w3 HB3.out)
  have hLt := C.lentSpans_any (HL.out.below (btr HB0.out HB3.out)) (by have := HN0.out; omega)
  rw [HN0.out] at hLt
  go_wp2_with fail
  refine hLt.mono ?_
  rintro e w4 ⟨rfl, hs4, hb4⟩
  obtain ⟨G, hG⟩ : ∃ G, w3.heap.size = G := ⟨_, rfl⟩
  rw [hG] at hs4 ⊢
  have HG : Hid (w3.heap.size = G ∧ G < w4.heap.size) := ⟨hG, ((hs4.lt G rfl).2)⟩
  have HS4' : Hid (C.SOwn w4 G (.slice (some ⟨G, 0, none⟩) (n0 + 2) (n0 + 2)) (C.mkL l)) := hs4
  have HS4 : Hid (Below w3.heap.size w3 w4) := hb4
  have HB4 : Hid (Below w0.heap.size w0 w4) := btr HB3.out hb4
  have HU : Hid (∀ V, Below w4.heap.size w4 V → C.SOwn V G (.slice (some ⟨G, 0, none⟩) (n0 + 2) (n0 + 2)) (C.mkL l)) := fun V hV => HS4'.out.blk2 (fun g hg => hV.block g (HS4'.out.lt g hg).2)
  have HUl : Hid (∀ V, Below w4.heap.size w4 V → C.Ls V (.slice (some ⟨G, 0, none⟩) n0 (n0 + 2)) l) := fun V hV => (lent_row (HU.out V hV) HN0.out).ls (by have := HN0.out; omega)
  clear y0 y1 y2 y3 y4 y5 y6 hLt hs4 hb4 hG
  obtain ⟨y0, y1, y2, y3, y4, y5, y6⟩ := ask_cells (HR0.out w4 HB4.out)
  have hC5 := HQ1.out w4 _ (HUl.out w4 (Below.refl _ _)) (btr HB0.out HB4.out)
  go_wp2_with fail
  refine hC5.mono ?_
  intro e w5 hx
  obtain ⟨aX, nX, cX, osX, rfl, hra, hbb⟩ := Ra.of hx
  have HRX : Hid (Ra w5 w4.heap.size w5.heap.size aX nX cX osX r1) := hra
  have HS5 : Hid (Below w4.heap.size w4 w5) := hbb
  have HB5 : Hid (Below w0.heap.size w0 w5) := btr HB4.out hbb
  clear y0 y1 y2 y3 y4 y5 y6 hC5 hx hra hbb
  obtain ⟨y0, y1, y2, y3, y4, y5, y6⟩ := ask_cells (HR0.out w5 HB5.out)
  have hC6 := HQ2.out w5 _ (HM.out.below (btr HB0.out HB5.out)) (btr HB0.out HB5.out)
  go_wp2_with fail
  refine hC6.mono ?_
  intro e w6 hx
  obtain ⟨aY, nY, cY, osY, rfl, hra, hbb⟩ := Ra.of hx
  have HRY : Hid (Ra w6 w5.heap.size w6.heap.size aY nY cY osY r2) := hra
  have HS6 : Hid (Below w5.heap.size w5 w6) := hbb
  have HB6 : Hid (Below w0.heap.size w0 w6) := btr HB5.out hbb
  clear y0 y1 y2 y3 y4 y5 y6 hC6 hx hra hbb
  obtain ⟨y0, y1, y2, y3, y4, y5, y6⟩ := ask_cells (HR0.out w6 HB6.out)
  have hC7 := HQ1.out w6 _ (HUl.out w6 (btr HS5.out HS6.out)) (btr HB0.out HB6.out)
  go_wp2_with fail
  refine hC7.mono ?_
  intro e w7 hx
  obtain ⟨aZ, nZ, cZ, osZ, rfl, hra, hbb⟩ := Ra.of hx
  have HRZ : Hid (Ra w7 w6.heap.size w7.heap.size aZ nZ cZ osZ r1) := hra
  have HS7 : Hid (Below w6.heap.size w6 w7) := hbb
  have HB7 : Hid (Below w0.heap.size w0 w7) := btr HB6.out hbb
  clear y0 y1 y2 y3 y4 y5 y6 hC7 hx hra hbb
  obtain ⟨y0, y1, y2, y3, y4, y5, y6⟩ := ask_cells (HR0.out w7 HB7.out)
  clear y0 y1 y2 y3 y4 y5 y6
  have hq1 := (HRX.out.below (btr HS6.out HS7.out)).rl
  have hq2 := (HRW.out.below (btr HS3.out (btr HS4.out (btr HS5.out (btr HS6.out HS7.out))))).rl
  have hC := sameAll5_eq _ aX aW nX cX cW w7 hq1.2 (by have := HRX.out.n2; omega) hq1.1 hq2.1
  obtain rfl : nW = nX := hq2.2.symm.trans hq1.2
  clear hq1 hq2
  go_wp2_with fail
  refine hC.mono ?_
  rintro e w8 ⟨rfl, hbb⟩
  have HS8 : Hid (Below w7.heap.size w7 w8) := hbb
  have HB8 : Hid (Below w0.heap.size w0 w8) := btr HB7.out hbb
  clear hC hbb
  have hq1 := (HRY.out.below (btr HS7.out HS8.out)).rl
  have hq2 := (HRA.out.below (btr (btr HS4.out (btr HS5.out (btr HS6.out HS7.out))) HS8.out)).rl
  have hC := sameAll5_eq _ aY aA nY cY cA w8 hq1.2 (by have := HRY.out.n2; omega) hq1.1 hq2.1
  obtain rfl : nA = nY := hq2.2.symm.trans hq1.2
  clear hq1 hq2
  go_wp2_with fail
  refine hC.mono ?_
  rintro e w9 ⟨rfl, hbb⟩
  have HS9 : Hid (Below w8.heap.size w8 w9) := hbb
  have HB9 : Hid (Below w0.heap.size w0 w9) := btr HB8.out hbb
  clear hC hbb
  have hq1 := (HRZ.out.below (btr HS8.out HS9.out)).rl
  have hq2 := (HRW.out.below (btr (btr HS3.out (btr HS4.out (btr HS5.out (btr HS6.out HS7.out)))) (btr HS8.out HS9.out))).rl
  have hC := sameAll5_eq _ aZ aW nZ cZ cW w9 hq1.2 (by have := HRZ.out.n2; omega) hq1.1 hq2.1
  obtain rfl : nW = nZ := hq2.2.symm.trans hq1.2
  clear hq1 hq2
  go_wp2_with fail
  refine hC.mono ?_
  rintro e w10 ⟨rfl, hbb⟩
  have HS10 : Hid (Below w9.heap.size w9 w10) := hbb
  have HB10 : Hid (Below w0.heap.size w0 w10) := btr HB9.out hbb
  clear hC hbb
  have hKp := C.keptSpans_any (c0 := 0) (HL.out.below (btr HB0.out HB10.out)) (by have := HN0.out; omega) (by rw [HN0.out]; exact HU.out w10 (btr HS5.out (btr HS6.out (btr HS7.out (btr HS8.out (btr HS9.out HS10.out))))))
  rw [HN0.out] at hKp
  go_wp2_with fail
  refine hKp.mono ?_
  rintro e w11 ⟨rfl, hb11⟩
  have HB11 : Hid (Below w0.heap.size w0 w11) := btr HB10.out hb11
  have HS11 : Hid (Below w10.heap.size w10 w11) := hb11
  have HT7 : Hid (Below w7.heap.size w7 w11) := btr HS8.out (btr HS9.out (btr HS10.out hb11))
  have HS4u : Hid (C.SOwn w11 G (.slice (some ⟨G, 0, none⟩) (n0 + 2) (n0 + 2)) (C.mkL l)) := HU.out w11 (btr HS5.out (btr HS6.out (btr HS7.out HT7.out)))
  have HRx : Hid (Ra w11 w4.heap.size w5.heap.size aX nW cX osX r1) := HRX.out.below (btr HS6.out (btr HS7.out HT7.out))
  have HRy : Hid (Ra w11 w5.heap.size w6.heap.size aY nA cY osY r2) := HRY.out.below (btr HS7.out HT7.out)
  have HRz : Hid (Ra w11 w6.heap.size w7.heap.size aZ nW cZ osZ r1) := HRZ.out.below HT7.out
  have HRw : Hid (Ra w11 w1.heap.size w2.heap.size aW nW cW osW r1) := HRW.out.below (btr HS3.out (btr HS4.out (btr HS5.out (btr HS6.out (btr HS7.out HT7.out)))))
  have HZs : Hid (w1.heap.size ≤ w2.heap.size ∧ w2.heap.size ≤ w3.heap.size ∧ w3.heap.size = G ∧ G < w4.heap.size ∧ w4.heap.size ≤ w5.heap.size ∧ w5.heap.size ≤ w6.heap.size ∧ w6.heap.size ≤ w7.heap.size ∧ w7.heap.size ≤ w11.heap.size ∧ W.heap.size < w0.heap.size ∧ w0.heap.size ≤ w1.heap.size) := ⟨HS2.out.size, HS3.out.size, HG.out.1, HG.out.2, HS5.out.size, HS6.out.size, HS7.out.size, HT7.out.size, by rw [← HW0.out]; simp, HB1.out.size⟩
  have HRb11 : Hid (w11.heap[W.heap.size]? = some (.cells #[.int .i64 o, .int .i64 n, .int .i64 mtu, .int .i64 lo, .int .i64 up, .int .i64 ck, .int .i64 sr] 60 (0, 0))) := HR0.out w11 HB11.out
  clear hKp hb11 HRX HRY HRZ HRW HRA HS2 HS3 HS4 HS5 HS6 HS7 HS8 HS9 HS10 HS11 HB1 HB2 HB3 HB4 HB5 HB6 HB7 HB8 HB9 HB10 HT7 HU HUl HS4' HP1 HP2 HQ1 HQ2 HG HL HM
  by_cases hz : n0 = 0
  · subst hz
    obtain ⟨w12, hw12⟩ : ∃ x, x = w11 := ⟨_, rfl⟩
    have HU12 : Hid (C.SOwn w12 G (.slice (some ⟨G, 0, none⟩) 0 (0 + 2)) l) := by rw [hw12]; exact lent_row HS4u.out HN0.out
    have HE12 : Hid (∀ g, g ≠ G → w12.heap[g]? = w11.heap[g]?) := by rw [hw12]; exact fun _ _ => rfl
    have HB12 : Hid (Below W.heap.size W w12 ∧ w12.heap.size = w11.heap.size) := by rw [hw12]; exact ⟨btr HB0.out HB11.out, rfl⟩
    obtain ⟨l2, hl2⟩ : ∃ x, l = x := ⟨_, rfl⟩
    have HL2 : Hid (l2.length = 0) := by rw [← hl2]; exact HN0.out
    rw [hl2] at HU12
    subst hw12
    clear hl2 HN0 HS4u
    have HRb : Hid (w12.heap[W.heap.size]? = some (.cells #[.int .i64 o, .int .i64 n, .int .i64 mtu, .int .i64 lo, .int .i64 up, .int .i64 ck, .int .i64 sr] 60 (0, 0))) := (HE12.out _ (by have := HZs.out; omega)).trans HRb11.out
    obtain ⟨y0, y1, y2, y3, y4, y5, y6⟩ := ask_cells HRb11.out
    have hg1 : W.heap.size ≠ G := by have := HZs.out; omega
    have hg2 : G ≠ W.heap.size := by have := HZs.out; omega
    have HRx2 : Hid (Ra w12 w4.heap.size w5.heap.size aX nW cX osX r1) := HRx.out.same (fun g h1 h2 => HE12.out g (by have := HZs.out; omega))
    have HRy2 : Hid (Ra w12 w5.heap.size w6.heap.size aY nA cY osY r2) := HRy.out.same (fun g h1 h2 => HE12.out g (by have := HZs.out; omega))
    have HRz2 : Hid (Ra w12 w6.heap.size w7.heap.size aZ nW cZ osZ r1) := HRz.out.same (fun g h1 h2 => HE12.out g (by have := HZs.out; omega))
    have HRw2 : Hid (Ra w12 w1.heap.size w2.heap.size aW nW cW osW r1) := HRw.out.same (fun g h1 h2 => HE12.out g (by have := HZs.out; omega))
    have HUl : Hid (∀ V, Below w12.heap.size w12 V → C.Ls V (.slice (some ⟨G, 0, none⟩) 0 (0 + 2)) l2) := fun V hV => (HU12.out.blk2 (fun g hg => hV.block g (HU12.out.lt g hg).2)).ls (by have := HL2.out; omega)
    obtain ⟨e3, he3⟩ : ∃ x, (mk5 o n mtu l2 lo up ck sr).1 = x := ⟨_, rfl⟩
    obtain ⟨r3, hr3⟩ : ∃ x, (mk5 o n mtu l2 lo up ck sr).2 = x := ⟨_, rfl⟩
    have hC13 := rqMake_any o n mtu _ l2 lo up ck sr w12 (HUl.out w12 (Below.refl _ _))
    have HQ3 : Hid (∀ V, Below w12.heap.size w12 V → Calls Tryd.prog 26 #[.agg #[.int .i64 o, .int .i64 n], .int .i64 mtu, .slice (some ⟨G, 0, none⟩) 0 (0 + 2), .int .i64 lo, .int .i64 up, .int .i64 ck, .int .i64 sr] V (MkP e3 r3 V)) := fun V hV => by rw [← he3, ← hr3]; exact make5_any o n mtu _ l2 lo up ck sr V (HUl.out V hV) (HT.out.below (btr HB12.out.1 hV) h00)
    rw [he3, hr3] at hC13
    clear he3 hr3 HRx HRy HRz HRw HB11 HR0 HUl
    go_wp2_with fail
    refine hC13.mono ?_
    intro e w13 hx
    obtain ⟨aN, nN, cN, osN, rfl, hra, hbb⟩ := Ra.of hx
    have HRn : Hid (Ra w13 w12.heap.size w13.heap.size aN nN cN osN r3) := hra
    have HS13 : Hid (Below w12.heap.size w12 w13) := hbb
    clear y0 y1 y2 y3 y4 y5 y6 hC13 hx hra hg1 hg2
    obtain ⟨y0, y1, y2, y3, y4, y5, y6⟩ := ask_cells ((hbb.block _ (Array.getElem?_eq_some_iff.1 HRb.out).1).trans HRb.out)
    have hC14 := HQ3.out w13 hbb
    clear hbb HQ3
    go_wp2_with fail
    refine hC14.mono ?_
    intro e w14 hx
    obtain ⟨aV, nV, cV, osV, rfl, hra, hbb⟩ := Ra.of hx
    have HRv : Hid (Ra w14 w13.heap.size w14.heap.size aV nV cV osV r3) := hra
    have HS14 : Hid (Below w13.heap.size w13 w14) := hbb
    clear y0 y1 y2 y3 y4 y5 y6 hC14 hx hra
    have hq1 := HRv.out.rl
    have hq2 := (HRn.out.below hbb).rl
    have hC := sameAll5_eq _ aV aN nV cV cN w14 hq1.2 (by have := HRv.out.n2; omega) hq1.1 hq2.1
    obtain rfl : nN = nV := hq2.2.symm.trans hq1.2
    clear hq1 hq2 hbb
    go_wp2_with fail
    refine hC.mono ?_
    rintro e w15 ⟨rfl, hbb⟩
    have HS15 : Hid (Below w14.heap.size w14 w15) := hbb
    clear hC hbb
    have HT15 : Hid (Below w12.heap.size w12 w15) := btr HS13.out (btr HS14.out HS15.out)
    have HRx3 : Hid (Ra w15 w4.heap.size w5.heap.size aX nW cX osX r1) := HRx2.out.below HT15.out
    have HRy3 : Hid (Ra w15 w5.heap.size w6.heap.size aY nA cY osY r2) := HRy2.out.below HT15.out
    have HRz3 : Hid (Ra w15 w6.heap.size w7.heap.size aZ nW cZ osZ r1) := HRz2.out.below HT15.out
    have HRw3 : Hid (Ra w15 w1.heap.size w2.heap.size aW nW cW osW r1) := HRw2.out.below HT15.out
    have HRn3 : Hid (Ra w15 w12.heap.size w13.heap.size aN nN cN osN r3) := HRn.out.below (btr HS14.out HS15.out)
    have HRv3 : Hid (Ra w15 w13.heap.size w14.heap.size aV nN cV osV r3) := HRv.out.below HS15.out
    have HU15 : Hid (C.SOwn w15 G (.slice (some ⟨G, 0, none⟩) 0 (0 + 2)) l2) := HU12.out.blk2 (fun g hg => HT15.out.block g (HU12.out.lt g hg).2)
    have HZ15 : Hid (W.heap.size ≤ w1.heap.size ∧ w1.heap.size ≤ w2.heap.size ∧ w2.heap.size ≤ G ∧ G < w4.heap.size ∧ w4.heap.size ≤ w5.heap.size ∧ w5.heap.size ≤ w6.heap.size ∧ w6.heap.size ≤ w7.heap.size ∧ w7.heap.size ≤ w12.heap.size ∧ w12.heap.size ≤ w13.heap.size ∧ w13.heap.size ≤ w14.heap.size ∧ w14.heap.size ≤ w15.heap.size) := by
      have h1 := HZs.out; have h2 := HB12.out.2; have h3 := HS13.out.size; have h4 := HS14.out.size; have h5 := HS15.out.size
      refine ⟨by omega, by omega, by omega, by omega, by omega, by omega, by omega, by omega, by omega, by omega, by omega⟩
    have HB15 : Hid (Below W.heap.size W w15) := btr HB12.out.1 HT15.out
    clear HRx2 HRy2 HRz2 HRw2 HRn HRv HU12 HZs HS13 HS14 HS15 HT15 HB12 HE12 HRb HB0 HRb11
    go_wp2_with fail
    go_loopw [28] (fun i wr => ∃ (j : Nat) (l' : List (Int × Int)), j ≤ 0 ∧ i = .int .i64 j ∧ Hid ((l'.length = 0 ∧ C.SOwn wr G (.slice (some ⟨G, 0, none⟩) 0 (0 + 2)) l') ∧ Kr (.slice (some ⟨G, 0, none⟩) 0 0) w15 wr)) (fun i _ => 0 - (intOf i).toNat)
    case atStart => exact ⟨0, l2, Nat.zero_le _, rfl, hid_and (hid_and HL2 HU15) (Kr.refl _ _)⟩
    case round =>
      obtain ⟨j, l', hj, rfl, HJ⟩ := hrel
      by_cases hlt : j < 0
      · exact absurd hlt (Nat.not_lt_zero _)
      · obtain rfl : j = 0 := by omega
        obtain ⟨w16, hw16⟩ : ∃ x, x = wr := ⟨_, rfl⟩
        subst hw16
        have HK16 : Hid (Kr (.slice (some ⟨G, 0, none⟩) 0 0) w15 w16) := HJ.out.2
        have HG16 : Hid (∀ g, g ≠ G → w16.heap[g]? = w15.heap[g]?) := fun g hg => HK16.out.block g (fun e => hg (Option.some.inj e).symm)
        have HRx4 : Hid (Ra w16 w4.heap.size w5.heap.size aX nW cX osX r1) := HRx3.out.same (fun g h1 h2 => HG16.out g (by have := HZ15.out; omega))
        have HRy4 : Hid (Ra w16 w5.heap.size w6.heap.size aY nA cY osY r2) := HRy3.out.same (fun g h1 h2 => HG16.out g (by have := HZ15.out; omega))
        have HRz4 : Hid (Ra w16 w6.heap.size w7.heap.size aZ nW cZ osZ r1) := HRz3.out.same (fun g h1 h2 => HG16.out g (by have := HZ15.out; omega))
        have HRw4 : Hid (Ra w16 w1.heap.size w2.heap.size aW nW cW osW r1) := HRw3.out.same (fun g h1 h2 => HG16.out g (by have := HZ15.out; omega))
        have HRn4 : Hid (Ra w16 w12.heap.size w13.heap.size aN nN cN osN r3) := HRn3.out.same (fun g h1 h2 => HG16.out g (by have := HZ15.out; omega))
        have HRv4 : Hid (Ra w16 w13.heap.size w14.heap.size aV nN cV osV r3) := HRv3.out.same (fun g h1 h2 => HG16.out g (by have := HZ15.out; omega))
        have HB16 : Hid (Below W.heap.size W w16 ∧ w16.heap.size = w15.heap.size) := ⟨⟨HK16.out.os.trans HB15.out.os, HK16.out.tape.trans HB15.out.tape, HK16.out.output.trans HB15.out.output, by rw [HK16.out.size]; exact HB15.out.size, fun g hg => (HG16.out g (by have := HZ15.out; omega)).trans (HB15.out.block g hg)⟩, HK16.out.size⟩
        have hq1 := HRz4.out.rl
        have hq2 := HRw4.out.rl
        have hC := sameAll5_eq _ aZ aW nW cZ cW w16 hq1.2 (by have := HRz4.out.n2; omega) hq1.1 hq2.1
        clear HJ HRx3 HRy3 HRz3 HRw3 HRn3 HRv3 hq1 hq2 HG16 HK16
        go_wp2_with fail
        refine hC.mono ?_
        rintro e w17 ⟨rfl, hb17⟩
        have hq1 := (HRv4.out.below hb17).rl
        have hq2 := (HRn4.out.below hb17).rl
        have hC2 := sameAll5_eq _ aV aN nN cV cN w17 hq1.2 (by have := HRv4.out.n2; omega) hq1.1 hq2.1
        have HS17 : Hid (Below w16.heap.size w16 w17) := hb17
        clear hC hq1 hq2 hb17
        go_wp2_with fail
        refine hC2.mono ?_
        rintro e w18 ⟨rfl, hb18⟩
        have HT18 : Hid (Below w16.heap.size w16 w18) := btr HS17.out hb18
        have HRx5 : Hid (Ra w18 w4.heap.size w5.heap.size aX nW cX osX r1) := HRx4.out.below HT18.out
        have HRy5 : Hid (Ra w18 w5.heap.size w6.heap.size aY nA cY osY r2) := HRy4.out.below HT18.out
        have HRz5 : Hid (Ra w18 w6.heap.size w7.heap.size aZ nW cZ osZ r1) := HRz4.out.below HT18.out
        have HRw5 : Hid (Ra w18 w1.heap.size w2.heap.size aW nW cW osW r1) := HRw4.out.below HT18.out
        have HRn5 : Hid (Ra w18 w12.heap.size w13.heap.size aN nN cN osN r3) := HRn4.out.below HT18.out
        have HRv5 : Hid (Ra w18 w13.heap.size w14.heap.size aV nN cV osV r3) := HRv4.out.below HT18.out
        obtain ⟨B, hB⟩ : ∃ B, w18.heap.size = B := ⟨_, rfl⟩
        have HZ18 : Hid (w14.heap.size ≤ B ∧ w18.heap.size = B) := ⟨by have h1 := HZ15.out; have h2 := HB16.out.2; have h3 := HT18.out.size; omega, hB⟩
        have HB18 : Hid (Below W.heap.size W w18) := btr HB16.out.1 HT18.out
        have hn1 : nW ≤ 2000 := HRx5.out.n2
        have hn2 : nA ≤ 2000 := HRy5.out.n2
        have hn3 : nN ≤ 2000 := HRv5.out.n2
        have hC := claims5_any (.slice none 0 0) [] B aX nW cX osX w18 (World.ownsRow_nil _ _ _ _) (by omega) (by simp) HRx5.out.len hn1 (HRx5.out.clm (by have h1 := HZ15.out; have h2 := HZ18.out; omega))
        simp only [List.nil_append, List.length_nil] at hC
        clear hC2 hb18 HS17 HT18 HRx4 HRy4 HRz4 HRw4 HRn4 HRv4 HB16 HB15 hB
        obtain ⟨m19, hm19⟩ : ∃ x, 0 + nW = x := ⟨_, rfl⟩
        have hl19 : m19 ≤ 2000 := by omega
        rw [hm19] at hC
        have HM19 : Hid (0 + nW = m19) := hm19
        clear hm19
        go_wp2_with fail
        refine hC.mono ?_
        rintro e w19 ⟨v19, rfl, ho19, hb19⟩
        obtain ⟨a19, c19, rfl⟩ := own_sl5 ho19
        have HO19 : Hid (w19.ownsRow B 26 1 (.slice a19 m19 c19) m19 (osX.map R5o.cv)) := ho19
        have HS19 : Hid (Below B w18 w19) := hb19
        have el19 : (osX.map R5o.cv).length = m19 := by have := ho19.1; omega
        clear hC ho19 hb19
        have hC := claims5_any (.slice a19 m19 c19) (osX.map R5o.cv) B aY nA cY osY w19 (by rw [el19]; exact HO19.out) (by have := HZ18.out; have := HS19.out.size; omega) (by rw [el19]; omega) HRy5.out.len hn2 (fun V hV => HRy5.out.clm (B := B) (by have h1 := HZ15.out; have h2 := HZ18.out; omega) V (HS19.out.trans hV))
        rw [el19] at hC
        clear el19 HM19
        obtain ⟨m20, hm20⟩ : ∃ x, m19 + nA = x := ⟨_, rfl⟩
        have hl20 : m20 ≤ 4000 := by omega
        rw [hm20] at hC
        have HM20 : Hid (m19 + nA = m20) := hm20
        clear hm20
        go_wp2_with fail
        refine hC.mono ?_
        rintro e w20 ⟨v20, rfl, ho20, hb20⟩
        obtain ⟨a20, c20, rfl⟩ := own_sl5 ho20
        have HO20 : Hid (w20.ownsRow B 26 1 (.slice a20 m20 c20) m20 (osX.map R5o.cv ++ osY.map R5o.cv)) := ho20
        have HS20 : Hid (Below B w18 w20) := HS19.out.trans hb20
        have el20 : (osX.map R5o.cv ++ osY.map R5o.cv).length = m20 := by have := ho20.1; omega
        clear hC ho20 hb20
        have hC := claims5_any (.slice a20 m20 c20) (osX.map R5o.cv ++ osY.map R5o.cv) B aZ nW cZ osZ w20 (by rw [el20]; exact HO20.out) (by have := HZ18.out; have := HS20.out.size; omega) (by rw [el20]; omega) HRz5.out.len hn1 (fun V hV => HRz5.out.clm (B := B) (by have h1 := HZ15.out; have h2 := HZ18.out; omega) V (HS20.out.trans hV))
        rw [el20] at hC
        clear el20 HM20 HO19 HS19
        obtain ⟨m21, hm21⟩ : ∃ x, m20 + nW = x := ⟨_, rfl⟩
        have hl21 : m21 ≤ 6000 := by omega
        rw [hm21] at hC
        have HM21 : Hid (m20 + nW = m21) := hm21
        clear hm21
        go_wp2_with fail
        refine hC.mono ?_
        rintro e w21 ⟨v21, rfl, ho21, hb21⟩
        obtain ⟨a21, c21, rfl⟩ := own_sl5 ho21
        have HO21 : Hid (w21.ownsRow B 26 1 (.slice a21 m21 c21) m21 ((osX.map R5o.cv ++ osY.map R5o.cv) ++ osZ.map R5o.cv)) := ho21
        have HS21 : Hid (Below B w18 w21) := HS20.out.trans hb21
        have el21 : ((osX.map R5o.cv ++ osY.map R5o.cv) ++ osZ.map R5o.cv).length = m21 := by have := ho21.1; omega
        clear hC ho21 hb21
        have hC := claims5_any (.slice a21 m21 c21) ((osX.map R5o.cv ++ osY.map R5o.cv) ++ osZ.map R5o.cv) B aV nN cV osV w21 (by rw [el21]; exact HO21.out) (by have := HZ18.out; have := HS21.out.size; omega) (by rw [el21]; omega) HRv5.out.len hn3 (fun V hV => HRv5.out.clm (B := B) (by have h1 := HZ15.out; have h2 := HZ18.out; omega) V (HS21.out.trans hV))
        rw [el21] at hC
        clear el21 HM21 HO20 HS20
        obtain ⟨m22, hm22⟩ : ∃ x, m21 + nN = x := ⟨_, rfl⟩
        have hl22 : m22 ≤ 8000 := by omega
        rw [hm22] at hC
        have HM22 : Hid (m21 + nN = m22) := hm22
        clear hm22
        go_wp2_with fail
        refine hC.mono ?_
        rintro e w22 ⟨v22, rfl, ho22, hb22⟩
        obtain ⟨a22, c22, rfl⟩ := own_sl5 ho22
        have HO22 : Hid (w22.ownsRow B 26 1 (.slice a22 m22 c22) m22 (((osX.map R5o.cv ++ osY.map R5o.cv) ++ osZ.map R5o.cv) ++ osV.map R5o.cv)) := ho22
        have HS22 : Hid (Below B w18 w22) := HS21.out.trans hb22
        have el22 : (((osX.map R5o.cv ++ osY.map R5o.cv) ++ osZ.map R5o.cv) ++ osV.map R5o.cv).length = m22 := by have := ho22.1; omega
        clear hC ho22 hb22
        clear HM22 HO21 HS21
        obtain ⟨VL, hVL⟩ : ∃ x, ((osX.map R5o.cv ++ osY.map R5o.cv) ++ osZ.map R5o.cv) ++ osV.map R5o.cv = x := ⟨_, rfl⟩
        obtain ⟨w23, hw23⟩ : ∃ x, w22.alloc (.cells #[.slice none 0 0, .slice a22 m22 c22, .slice none 0 0] 73) = x := ⟨_, rfl⟩
        have HW23 : Hid (w22.alloc (.cells #[.slice none 0 0, .slice a22 m22 c22, .slice none 0 0] 73) = w23) := hw23
        have HS23 : Hid (Below B w18 w23 ∧ B ≤ w22.heap.size ∧ w22.heap.size < w23.heap.size) := by
          have h1 := HS22.out.size
          have h2 := HZ18.out.2
          rw [← hw23]
          exact ⟨HS22.out.trans ((Below.refl B w22).alloc (by omega) _), by omega, by simp⟩
        have hlo : ∀ g, g < w14.heap.size → w23.heap[g]? = w18.heap[g]? := fun g hg => HS23.out.1.block g (by have := HZ18.out; omega)
        have HRx6 : Hid (Ra w23 w4.heap.size w5.heap.size aX nW cX osX r1) := HRx5.out.same (fun g h1 h2 => hlo g (by have := HZ15.out; omega))
        have HRy6 : Hid (Ra w23 w5.heap.size w6.heap.size aY nA cY osY r2) := HRy5.out.same (fun g h1 h2 => hlo g (by have := HZ15.out; omega))
        have HRz6 : Hid (Ra w23 w6.heap.size w7.heap.size aZ nW cZ osZ r1) := HRz5.out.same (fun g h1 h2 => hlo g (by have := HZ15.out; omega))
        have HRw6 : Hid (Ra w23 w1.heap.size w2.heap.size aW nW cW osW r1) := HRw5.out.same (fun g h1 h2 => hlo g (by have := HZ15.out; omega))
        have HRn6 : Hid (Ra w23 w12.heap.size w13.heap.size aN nN cN osN r3) := HRn5.out.same (fun g h1 h2 => hlo g (by have := HZ15.out; omega))
        have HRv6 : Hid (Ra w23 w13.heap.size w14.heap.size aV nN cV osV r3) := HRv5.out.same (fun g h1 h2 => hlo g (by have := HZ15.out; omega))
        have HVm : Hid (∀ v ∈ VL, ∀ g, v.ownBlock = some g → w4.heap.size ≤ g ∧ g < w14.heap.size) := fun v hv g hg => by
          rw [← hVL] at hv
          have hz := HZ15.out
          rcases four_mem hv with ⟨q, hq, rfl⟩ | ⟨q, hq, rfl⟩ | ⟨q, hq, rfl⟩ | ⟨q, hq, rfl⟩
          · have := (HRx6.out.mem hq).2.1 g hg; omega
          · have := (HRy6.out.mem hq).2.1 g hg; omega
          · have := (HRz6.out.mem hq).2.1 g hg; omega
          · have := (HRv6.out.mem hq).2.1 g hg; omega
        -- whose rows' blocks are none of the claims'
        have HNx : Hid (∀ v ∈ VL, ∀ g, (Value.slice aX nW cX).ownBlock = some g → v.ownBlock ≠ some g) := fun v hv g hg e => by
          rw [← hVL] at hv
          have hz := HZ15.out
          have hr := HRx6.out.r5.row.lt g hg
          have ht := HRx6.out.hi g hg
          rcases four_mem hv with ⟨q, hq, rfl⟩ | ⟨q, hq, rfl⟩ | ⟨q, hq, rfl⟩ | ⟨q, hq, rfl⟩
          · obtain ⟨i, hi⟩ := List.getElem?_of_mem hq
            exact HRx6.out.r5.off i q g hi e hg
          · have := (HRy6.out.mem hq).2.1 g e; omega
          · have := (HRz6.out.mem hq).2.1 g e; omega
          · have := (HRv6.out.mem hq).2.1 g e; omega
        have HNz : Hid (∀ v ∈ VL, ∀ g, (Value.slice aZ nW cZ).ownBlock = some g → v.ownBlock ≠ some g) := fun v hv g hg e => by
          rw [← hVL] at hv
          have hz := HZ15.out
          have hr := HRz6.out.r5.row.lt g hg
          have ht := HRz6.out.hi g hg
          rcases four_mem hv with ⟨q, hq, rfl⟩ | ⟨q, hq, rfl⟩ | ⟨q, hq, rfl⟩ | ⟨q, hq, rfl⟩
          · have := (HRx6.out.mem hq).2.1 g e; omega
          · have := (HRy6.out.mem hq).2.1 g e; omega
          · obtain ⟨i, hi⟩ := List.getElem?_of_mem hq
            exact HRz6.out.r5.off i q g hi e hg
          · have := (HRv6.out.mem hq).2.1 g e; omega
        have HNv : Hid (∀ v ∈ VL, ∀ g, (Value.slice aV nN cV).ownBlock = some g → v.ownBlock ≠ some g) := fun v hv g hg e => by
          rw [← hVL] at hv
          have hz := HZ15.out
          have hr := HRv6.out.r5.row.lt g hg
          have ht := HRv6.out.hi g hg
          rcases four_mem hv with ⟨q, hq, rfl⟩ | ⟨q, hq, rfl⟩ | ⟨q, hq, rfl⟩ | ⟨q, hq, rfl⟩
          · have := (HRx6.out.mem hq).2.1 g e; omega
          · have := (HRy6.out.mem hq).2.1 g e; omega
          · have := (HRz6.out.mem hq).2.1 g e; omega
          · obtain ⟨i, hi⟩ := List.getElem?_of_mem hq
            exact HRv6.out.r5.off i q g hi e hg
        have HNn : Hid (∀ v ∈ VL, ∀ g, (Value.slice aN nN cN).ownBlock = some g → v.ownBlock ≠ some g) := fun v hv g hg e => by
          rw [← hVL] at hv
          have hz := HZ15.out
          have hr := HRn6.out.r5.row.lt g hg
          have ht := HRn6.out.hi g hg
          rcases four_mem hv with ⟨q, hq, rfl⟩ | ⟨q, hq, rfl⟩ | ⟨q, hq, rfl⟩ | ⟨q, hq, rfl⟩
          · have := (HRx6.out.mem hq).2.1 g e; omega
          · have := (HRy6.out.mem hq).2.1 g e; omega
          · have := (HRz6.out.mem hq).2.1 g e; omega
          · have := (HRv6.out.mem hq).2.1 g e; omega
        have hOw : Calls Tryd.prog 30 #[.pointer (some ⟨w22.heap.size, 0, none⟩)] w23 fun e w' => e = .returned (.bool true) ∧ Kx VL w23 w' := by
          have hf := four_own HRx6.out HRy6.out HRz6.out HRv6.out (by have := HZ15.out; omega)
          have hp := four_prt HRx6.out HRy6.out HRz6.out HRv6.out (by have := HZ15.out; omega)
          rw [hVL] at hf hp el22 HO22
          refine owned_list2 (B := w4.heap.size) (cap := c22) (al := a22) (vs := VL) (Cs := fun j => (((((osX ++ osY) ++ osZ) ++ osV)[j]?.map (fun o : R5o => o.r.clm)).getD [])) ?_ ?_ hp hf.1 ?_ (by omega) hf.2
          · rw [el22, ← hw23]; exact al_new _ _
          · by_cases h0 : VL = []
            · exact .inl h0
            · obtain ⟨gl, cap, hv⟩ := C.own_some HO22.out (by have := List.length_pos_iff.mpr h0; omega)
              simp only [Value.slice.injEq] at hv
              obtain ⟨rfl, _, rfl⟩ := hv
              have hgl := HO22.out.lt gl rfl
              refine .inr ⟨gl, rfl, fun i v hv => ?_, fun v hv e => by have h1 := HVm.out v hv gl e; have h2 := HZ18.out; omega⟩
              have hil : i < m22 := by have := (List.getElem?_eq_some_iff.mp hv).1; omega
              rw [← hw23]
              exact (World.cell?_of_block (a := ⟨gl, i, none⟩) (((Below.refl w22.heap.size w22).alloc (Nat.le_refl _) _).block gl hgl.2)).trans ((HO22.out.cellAt i (by omega)).trans hv)
          · intro v hv e
            have h1 := HVm.out v hv _ e
            have h2 := HZ18.out
            have h3 := HS23.out
            omega
        have HB23 : Hid (Below W.heap.size W w23) := HB18.out.trans (HS23.out.1.mono (by have h1 := HZ15.out; have h2 := HZ18.out; omega))
        clear hlo hw23 el22 HO22 HS22 HRx5 HRy5 HRz5 HRw5 HRn5 HRv5 HB18 hVL
        go_wp2_with fail
        rw [HW23.out]
        refine hOw.mono ?_
        rintro e w24 ⟨rfl, hk24⟩
        have hz := HZ15.out
        have HX24 : Hid (w24.ownsRow w4.heap.size 75 5 (.slice aX nW cX) nW (rpC osX)) := by
          have h := HRx6.out.r5.row
          rw [HRx6.out.len] at h
          exact C.own_blk2 h (fun g hg => hk24.block g (h.lt g hg).2 (fun v hv => HNx.out v hv g hg))
        have HCz : Hid (∀ g, (Value.slice aZ nW cZ).ownBlock = some g → w24.heap[g]? = w23.heap[g]? ∧ (Value.slice aX nW cX).ownBlock ≠ some g) := fun g hg => ⟨hk24.block g (HRz6.out.r5.row.lt g hg).2 (fun v hv => HNz.out v hv g hg), fun e => by have := HRx6.out.hi g e; have := (HRz6.out.r5.row.lt g hg).1; omega⟩
        have HCv : Hid (∀ g, (Value.slice aV nN cV).ownBlock = some g → w24.heap[g]? = w23.heap[g]? ∧ (Value.slice aX nW cX).ownBlock ≠ some g) := fun g hg => ⟨hk24.block g (HRv6.out.r5.row.lt g hg).2 (fun v hv => HNv.out v hv g hg), fun e => by have := HRx6.out.hi g e; have := (HRv6.out.r5.row.lt g hg).1; omega⟩
        have HCn : Hid (∀ g, (Value.slice aN nN cN).ownBlock = some g → w24.heap[g]? = w23.heap[g]? ∧ (Value.slice aX nW cX).ownBlock ≠ some g) := fun g hg => ⟨hk24.block g (HRn6.out.r5.row.lt g hg).2 (fun v hv => HNn.out v hv g hg), fun e => by have := HRx6.out.hi g e; have := (HRn6.out.r5.row.lt g hg).1; omega⟩
        have HCw : Hid (∀ g, (Value.slice aW nW cW).ownBlock = some g → w24.heap[g]? = w23.heap[g]? ∧ (Value.slice aX nW cX).ownBlock ≠ some g) := fun g hg => ⟨hk24.block g (HRw6.out.r5.row.lt g hg).2 (fun v hv e => by have := HVm.out v hv g e; have := HRw6.out.hi g hg; omega), fun e => by have := (HRx6.out.r5.row.lt g e).1; have := HRw6.out.hi g hg; omega⟩
        have HB24 : Hid (Below W.heap.size W w24 ∧ W.heap.size ≤ w4.heap.size) := ⟨⟨hk24.os.trans HB23.out.os, hk24.tape.trans HB23.out.tape, hk24.output.trans HB23.out.output, Nat.le_trans HB23.out.size hk24.size, fun g hg => (hk24.block g (Nat.lt_of_lt_of_le hg HB23.out.size) (fun v hv e => by have := HVm.out v hv g e; omega)).trans (HB23.out.block g hg)⟩, by omega⟩
        have HSz : Hid (w4.heap.size ≤ w24.heap.size ∧ w23.heap.size ≤ w24.heap.size) := ⟨by have h1 := hk24.size; have h2 := HS23.out; have h3 := HZ18.out; omega, hk24.size⟩
        clear hOw hk24 HNx HNz HNv HNn HVm HW23 HS23 HB23 hz
        have hqn : ∀ (w : World) (a : Option Addr) (l c : Nat), (binOp .neq 61 (.slice a l c) (.slice none 0 0)).run Tryd.prog w = .ok (.bool (!a.isNone)) w := fun w a l c => run_neq_nil5 w _ _ a l c Tryd.underlying61
        obtain ⟨i0, hi0, hz0, hy0, hb0⟩ := info_parts Tryd.info_report
        go_wp2_with fail
        go_loopw [34] (fun i wr => ∃ (j : Nat) (xs : List Value), j ≤ nW ∧ i = .int .i64 j ∧ Hid (wr.ownsRow w4.heap.size 75 5 (.slice aX nW cX) nW xs ∧ Kr (.slice aX nW cX) w24 wr)) (fun i _ => nW - (intOf i).toNat)
        case atStart => exact ⟨0, rpC osX, Nat.zero_le _, rfl, hid_and HX24 (Kr.refl _ _)⟩
        case round =>
          obtain ⟨j, xs, hj, rfl, HJ⟩ := hrel
          by_cases hlt : j < nW
          · have hlt' : (j : Int) < (nW : Int) := by omega
            obtain ⟨gx, capx, hvx⟩ := C.own_some HJ.out.1 (by omega)
            simp only [Value.slice.injEq] at hvx
            obtain ⟨rfl, _, rfl⟩ := hvx
            obtain ⟨q0, q1, q2, q3, q4, k0, k1, k2, k3, k4, f0, f1, f2, f3, f4⟩ := row_cells5 HJ.out.1 hlt
            have HJ2 : Hid (∃ xs', (((((wr.setCell ⟨gx, j * 5, none⟩ (.int .i64 (-9))).setCell ⟨gx, j * 5 + 1, none⟩ (.int .i64 0)).setCell ⟨gx, j * 5 + 2, none⟩ (.int .i64 0)).setCell ⟨gx, j * 5 + 3, none⟩ (.int .i64 0)).setCell ⟨gx, j * 5 + 4, none⟩ (.slice none 0 0)).ownsRow w4.heap.size 75 5 (.slice (some ⟨gx, 0, none⟩) nW cX) nW xs') := row_store5 HJ.out.1 _ _ _ _ _
            have HK2 : Hid (Kr (.slice (some ⟨gx, 0, none⟩) nW cX) w24 (((((wr.setCell ⟨gx, j * 5, none⟩ (.int .i64 (-9))).setCell ⟨gx, j * 5 + 1, none⟩ (.int .i64 0)).setCell ⟨gx, j * 5 + 2, none⟩ (.int .i64 0)).setCell ⟨gx, j * 5 + 3, none⟩ (.int .i64 0)).setCell ⟨gx, j * 5 + 4, none⟩ (.slice none 0 0))) := ((((HJ.out.2.set rfl _ _).set rfl _ _).set rfl _ _).set rfl _ _).set rfl _ _
            clear HJ
            go_wp2
            go_roundw
            case rel =>
              obtain ⟨xs', hxs'⟩ := HJ2.out
              exact ⟨j + 1, xs', by omega, by go_num, hid_and hxs' HK2⟩
            case measure => simp [intOf]; omega
          · obtain rfl : j = nW := by omega
            have hlt' : ¬ (j : Int) < (j : Int) := by omega
            obtain ⟨w25, hw25⟩ : ∃ x, x = wr := ⟨_, rfl⟩
            subst hw25
            have HR25 : Hid ((w25.alloc (.cells #[.int .i64 (-8), .int .i64 0, .int .i64 0, .int .i64 0, .slice none 0 0, .int .i64 (-8), .int .i64 0, .int .i64 0, .int .i64 0, .slice none 0 0] 75)).ownsRow w4.heap.size 75 5 (.slice aX j cX) j xs) := C.own_blk2 HJ.out.1 (fun g hg => ((Below.refl w25.heap.size w25).alloc (Nat.le_refl _) (.cells #[.int .i64 (-8), .int .i64 0, .int .i64 0, .int .i64 0, .slice none 0 0, .int .i64 (-8), .int .i64 0, .int .i64 0, .int .i64 0, .slice none 0 0] 75)).block g (HJ.out.1.lt g hg).2)
            have HK25 : Hid (Kr (.slice aX j cX) w24 w25) := HJ.out.2
            have hw4s : w4.heap.size ≤ w25.heap.size := by
              have h1 := HK25.out.size; have h2 := HB24.out.1.size; have h3 := HZ15.out; have h4 := HZ18.out; have h5 := HX24.out
              have h6 := HSz.out
              omega
            clear HJ
            go_wp2_with (at_builtin; refine wpList_append_own_at _ rfl _ _ 61 rfl w4.heap.size 75 i0 _ 5 56 Tryd.underlying61 hi0 hz0 hy0 hb0 rfl (by decide) _ _ _ rfl HR25.out ⟨w25.heap.size, 0, none⟩ 2 2 [.int .i64 (-8), .int .i64 0, .int .i64 0, .int .i64 0, .slice none 0 0, .int .i64 (-8), .int .i64 0, .int .i64 0, .int .i64 0, .slice none 0 0] rfl rfl (lit10 _) (one10) (by unfold maxLen; omega) (by omega) (by simp; omega) ?_; intro v26 w26 o26 g26 _ t26; obtain ⟨a26, c26, rfl⟩ := own_sl5 o26)
            have HG26 : Hid (∀ g, g < w25.heap.size → (Value.slice aX j cX).ownBlock ≠ some g → w26.heap[g]? = w25.heap[g]?) := fun g hg hn => (g26.block g (by simp; omega) (fun e => hn e.symm)).trans (((Below.refl w25.heap.size w25).alloc (Nat.le_refl _) _).block g hg)
            have HB26 : Hid (Below W.heap.size W w26) := by
              have h1 := HB24.out.1
              have h2 := HK25.out
              refine ⟨g26.os.trans (h2.os.trans h1.os), g26.tape.trans (h2.tape.trans h1.tape), g26.output.trans (h2.output.trans h1.output), Nat.le_trans h1.size (by rw [← h2.size]; exact Nat.le_trans (by simp) g26.size), fun g hg => ?_⟩
              have h3 : (Value.slice aX j cX).ownBlock ≠ some g := fun e => by have := (HR25.out.lt g e).1; have := HB24.out.2; omega
              exact (HG26.out g (by rw [h2.size]; exact Nat.lt_of_lt_of_le hg h1.size) h3).trans ((h2.block g h3).trans (h1.block g hg))
            have HAll : Hid (∀ g, w24.heap[g]? = w23.heap[g]? ∧ (Value.slice aX j cX).ownBlock ≠ some g → g < w23.heap.size → w26.heap[g]? = w23.heap[g]?) := fun g h hg => (HG26.out g (by rw [HK25.out.size]; exact Nat.lt_of_lt_of_le hg HSz.out.2) h.2).trans ((HK25.out.block g h.2).trans h.1)
            have HSz1 : Hid (∀ (i : Nat) r, r1[i]? = some r → ∃ g, aZ = some ⟨g, 0, none⟩ ∧ w26.cell? ⟨g, i * 5, none⟩ = some (.int .i64 r.ser)) := HRz6.out.sers (fun g hg => HAll.out g (HCz.out g hg) (HRz6.out.r5.row.lt g hg).2)
            have HSw1 : Hid (∀ (i : Nat) r, r1[i]? = some r → ∃ g, aW = some ⟨g, 0, none⟩ ∧ w26.cell? ⟨g, i * 5, none⟩ = some (.int .i64 r.ser)) := HRw6.out.sers (fun g hg => HAll.out g (HCw.out g hg) (HRw6.out.r5.row.lt g hg).2)
            have HSv1 : Hid (∀ (i : Nat) r, r3[i]? = some r → ∃ g, aV = some ⟨g, 0, none⟩ ∧ w26.cell? ⟨g, i * 5, none⟩ = some (.int .i64 r.ser)) := HRv6.out.sers (fun g hg => HAll.out g (HCv.out g hg) (HRv6.out.r5.row.lt g hg).2)
            have HSn1 : Hid (∀ (i : Nat) r, r3[i]? = some r → ∃ g, aN = some ⟨g, 0, none⟩ ∧ w26.cell? ⟨g, i * 5, none⟩ = some (.int .i64 r.ser)) := HRn6.out.sers (fun g hg => HAll.out g (HCn.out g hg) (HRn6.out.r5.row.lt g hg).2)
            have HL1 : Hid (r1.length = j) := HRz6.out.rowlen
            have HL3 : Hid (r3.length = nN) := HRv6.out.rowlen
            have hAV : aV = none ∨ ∃ g, aV = some ⟨g, 0, none⟩ := by
              rcases HRv6.out.r5.row.2 with ⟨q, _⟩ | ⟨g, cap, cur, q, _⟩
              · simp only [Value.slice.injEq] at q; exact .inl q.1
              · simp only [Value.slice.injEq] at q; exact .inr ⟨g, q.1⟩
            clear o26 g26 t26 HR25 HK25 HG26 HAll HCz HCw HCv HCn HRx6 HRy6 HRz6 HRw6 HRn6 HRv6 HX24 HB24 HZ15 HZ18 HSz
            go_wp2_with fail
            go_loopw [35] (fun i wr => ∃ q : Nat, q ≤ j ∧ i = .int .i64 q ∧ Below w26.heap.size w26 wr) (fun i _ => j - (intOf i).toNat)
            case atStart => exact ⟨0, Nat.zero_le _, rfl, Below.refl _ _⟩
            case round =>
              obtain ⟨q, hq, rfl, hbw⟩ := hrel
              have HBw : Hid (Below w26.heap.size w26 wr) := hbw
              by_cases hqj : q < j
              · have hqj' : (q : Int) < (j : Int) := by omega
                obtain ⟨r, hr⟩ := get_one r1 q (by rw [HL1.out]; exact hqj)
                obtain ⟨gz, rfl, x0⟩ := HSz1.out q r hr
                obtain ⟨gw, rfl, x1⟩ := HSw1.out q r hr
                have x0 := cell_below x0 hbw
                have x1 := cell_below x1 hbw
                rcases hAV with rfl | ⟨gv, rfl⟩
                · clear hbw hr
                  go_wp2_with fail
                  go_quiet (fail)
                  go_wp2
                  go_roundw
                  case rel => exact ⟨q + 1, by omega, by go_num, below_drewN' HBw.out _⟩
                  case measure => simp [intOf]; omega
                · by_cases hqn2 : q < nN
                  · have hqn' : (q : Int) < (nN : Int) := by omega
                    obtain ⟨r', hr'⟩ := get_one r3 q (by rw [HL3.out]; exact hqn2)
                    obtain ⟨gv', he, x2⟩ := HSv1.out q r' hr'
                    cases he
                    obtain ⟨gn, rfl, x3⟩ := HSn1.out q r' hr'
                    have x2 := cell_below x2 hbw
                    have x3 := cell_below x3 hbw
                    clear hbw hr hr'
                    go_wp2_with fail
                    go_quiet (fail)
                    go_wp2
                    go_roundw
                    case rel => exact ⟨q + 1, by omega, by go_num, below_drewN' HBw.out _⟩
                    case measure => simp [intOf]; omega
                  · have hqn' : ¬ (q : Int) < (nN : Int) := by omega
                    have hqd : decide ((q : Int) < (nN : Int)) = false := by simp; omega
                    clear hbw hr
                    go_wp2_with fail
                    go_quiet (fail)
                    go_wp2
                    go_roundw
                    case rel => exact ⟨q + 1, by omega, by go_num, below_drewN' HBw.out _⟩
                    case measure => simp [intOf]; omega
              · have hqj' : ¬ (q : Int) < (j : Int) := by omega
                have HF : Hid (Below W.heap.size W wr) := btr HB26.out hbw
                have h2j : (2 : Int) ≤ (j : Int) + 2 := by omega
                clear hbw
                go_wp2
                first | exact ⟨rfl, HF.out⟩ | (go_ret; exact ⟨rfl, HF.out⟩)

  · have hz1 : 0 < n0 := by omega
    have hz2 : (0 : Int) < (n0 : Int) := by omega
    obtain ⟨p, hp⟩ := set_last (l := l) (fun e => by have := HN0.out; rw [e] at this; simp at this; omega)
    rw [HN0.out] at hp
    obtain ⟨k, hk⟩ : ∃ k, n0 = k + 1 := ⟨n0 - 1, by omega⟩
    subst hk
    rw [Nat.add_sub_cancel] at hp
    obtain ⟨x0, x1, x2, x3⟩ := HS4u.out.cells2 (C.mkL_at hp)
    have hwk : IntKind.i64.wrap ((k : Int) + 1 - 1) = (k : Int) := by rw [IntKind.wrap_i64]; omega
    have hwk2 : IntKind.i64.wrap (((k + 1 : Nat) : Int) - 1) = (k : Int) := by rw [IntKind.wrap_i64]; omega
    have hkk : (k : Int) < (k : Int) + 1 := by omega
    obtain ⟨b, hb⟩ : ∃ b, IntKind.i64.wrap (p.2 + 1) = b := ⟨_, rfl⟩
    obtain ⟨l2, hl2⟩ : ∃ x, l.set k (p.1, b) = x := ⟨_, rfl⟩
    have HL2 : Hid (l2.length = k + 1) := by show _ = _; rw [← hl2, List.length_set]; exact HN0.out
    obtain ⟨w12, hw12⟩ : ∃ x, w11.setCell ⟨G, k * 2 + 1, none⟩ (.int .i64 b) = x := ⟨_, rfl⟩
    have HWe : Hid (w11.setCell ⟨G, k * 2 + 1, none⟩ (.int .i64 b) = w12) := hw12
    have HU12 : Hid (C.SOwn w12 G (.slice (some ⟨G, 0, none⟩) (k + 1) (k + 1 + 2)) l2) := by
      have := put_to HS4u.out (C.mkL_at hp) b
      rw [mkL_set _ _ _ (by have := HN0.out; omega), hl2, hw12] at this
      exact lent_row this HL2.out
    have HE12 : Hid (∀ g, g ≠ G → w12.heap[g]? = w11.heap[g]?) := fun g hg => by rw [← hw12]; exact Below.heap_setCell _ _ _ _ (by show g ≠ G; exact hg)
    have HB12 : Hid (Below W.heap.size W w12 ∧ w12.heap.size = w11.heap.size) := by
      rw [← hw12]
      exact ⟨(btr HB0.out HB11.out).setCell (by have := HZs.out; show _ ≤ G; omega) _, by simp⟩
    clear hl2 HN0 hw12 hp HS4u
    have HRb : Hid (w12.heap[W.heap.size]? = some (.cells #[.int .i64 o, .int .i64 n, .int .i64 mtu, .int .i64 lo, .int .i64 up, .int .i64 ck, .int .i64 sr] 60 (0, 0))) := (HE12.out _ (by have := HZs.out; omega)).trans HRb11.out
    obtain ⟨y0, y1, y2, y3, y4, y5, y6⟩ := ask_cells HRb11.out
    have hg1 : W.heap.size ≠ G := by have := HZs.out; omega
    have hg2 : G ≠ W.heap.size := by have := HZs.out; omega
    have HRx2 : Hid (Ra w12 w4.heap.size w5.heap.size aX nW cX osX r1) := HRx.out.same (fun g h1 h2 => HE12.out g (by have := HZs.out; omega))
    have HRy2 : Hid (Ra w12 w5.heap.size w6.heap.size aY nA cY osY r2) := HRy.out.same (fun g h1 h2 => HE12.out g (by have := HZs.out; omega))
    have HRz2 : Hid (Ra w12 w6.heap.size w7.heap.size aZ nW cZ osZ r1) := HRz.out.same (fun g h1 h2 => HE12.out g (by have := HZs.out; omega))
    have HRw2 : Hid (Ra w12 w1.heap.size w2.heap.size aW nW cW osW r1) := HRw.out.same (fun g h1 h2 => HE12.out g (by have := HZs.out; omega))
    have HUl : Hid (∀ V, Below w12.heap.size w12 V → C.Ls V (.slice (some ⟨G, 0, none⟩) (k + 1) ((k + 1) + 2)) l2) := fun V hV => (HU12.out.blk2 (fun g hg => hV.block g (HU12.out.lt g hg).2)).ls (by have := HL2.out; omega)
    obtain ⟨e3, he3⟩ : ∃ x, (mk5 o n mtu l2 lo up ck sr).1 = x := ⟨_, rfl⟩
    obtain ⟨r3, hr3⟩ : ∃ x, (mk5 o n mtu l2 lo up ck sr).2 = x := ⟨_, rfl⟩
    have hC13 := rqMake_any o n mtu _ l2 lo up ck sr w12 (HUl.out w12 (Below.refl _ _))
    have HQ3 : Hid (∀ V, Below w12.heap.size w12 V → Calls Tryd.prog 26 #[.agg #[.int .i64 o, .int .i64 n], .int .i64 mtu, .slice (some ⟨G, 0, none⟩) (k + 1) ((k + 1) + 2), .int .i64 lo, .int .i64 up, .int .i64 ck, .int .i64 sr] V (MkP e3 r3 V)) := fun V hV => by rw [← he3, ← hr3]; exact make5_any o n mtu _ l2 lo up ck sr V (HUl.out V hV) (HT.out.below (btr HB12.out.1 hV) h00)
    rw [he3, hr3] at hC13
    clear he3 hr3 HRx HRy HRz HRw HB11 HR0 HUl
    go_wp2_with fail
    rw [HWe.out]
    refine hC13.mono ?_
    intro e w13 hx
    obtain ⟨aN, nN, cN, osN, rfl, hra, hbb⟩ := Ra.of hx
    have HRn : Hid (Ra w13 w12.heap.size w13.heap.size aN nN cN osN r3) := hra
    have HS13 : Hid (Below w12.heap.size w12 w13) := hbb
    clear y0 y1 y2 y3 y4 y5 y6 hC13 hx hra hg1 hg2
    obtain ⟨y0, y1, y2, y3, y4, y5, y6⟩ := ask_cells ((hbb.block _ (Array.getElem?_eq_some_iff.1 HRb.out).1).trans HRb.out)
    have hC14 := HQ3.out w13 hbb
    clear hbb HQ3
    go_wp2_with fail
    refine hC14.mono ?_
    intro e w14 hx
    obtain ⟨aV, nV, cV, osV, rfl, hra, hbb⟩ := Ra.of hx
    have HRv : Hid (Ra w14 w13.heap.size w14.heap.size aV nV cV osV r3) := hra
    have HS14 : Hid (Below w13.heap.size w13 w14) := hbb
    clear y0 y1 y2 y3 y4 y5 y6 hC14 hx hra
    have hq1 := HRv.out.rl
    have hq2 := (HRn.out.below hbb).rl
    have hC := sameAll5_eq _ aV aN nV cV cN w14 hq1.2 (by have := HRv.out.n2; omega) hq1.1 hq2.1
    obtain rfl : nN = nV := hq2.2.symm.trans hq1.2
    clear hq1 hq2 hbb
    go_wp2_with fail
    refine hC.mono ?_
    rintro e w15 ⟨rfl, hbb⟩
    have HS15 : Hid (Below w14.heap.size w14 w15) := hbb
    clear hC hbb
    have HT15 : Hid (Below w12.heap.size w12 w15) := btr HS13.out (btr HS14.out HS15.out)
    have HRx3 : Hid (Ra w15 w4.heap.size w5.heap.size aX nW cX osX r1) := HRx2.out.below HT15.out
    have HRy3 : Hid (Ra w15 w5.heap.size w6.heap.size aY nA cY osY r2) := HRy2.out.below HT15.out
    have HRz3 : Hid (Ra w15 w6.heap.size w7.heap.size aZ nW cZ osZ r1) := HRz2.out.below HT15.out
    have HRw3 : Hid (Ra w15 w1.heap.size w2.heap.size aW nW cW osW r1) := HRw2.out.below HT15.out
    have HRn3 : Hid (Ra w15 w12.heap.size w13.heap.size aN nN cN osN r3) := HRn.out.below (btr HS14.out HS15.out)
    have HRv3 : Hid (Ra w15 w13.heap.size w14.heap.size aV nN cV osV r3) := HRv.out.below HS15.out
    have HU15 : Hid (C.SOwn w15 G (.slice (some ⟨G, 0, none⟩) (k + 1) ((k + 1) + 2)) l2) := HU12.out.blk2 (fun g hg => HT15.out.block g (HU12.out.lt g hg).2)
    have HZ15 : Hid (W.heap.size ≤ w1.heap.size ∧ w1.heap.size ≤ w2.heap.size ∧ w2.heap.size ≤ G ∧ G < w4.heap.size ∧ w4.heap.size ≤ w5.heap.size ∧ w5.heap.size ≤ w6.heap.size ∧ w6.heap.size ≤ w7.heap.size ∧ w7.heap.size ≤ w12.heap.size ∧ w12.heap.size ≤ w13.heap.size ∧ w13.heap.size ≤ w14.heap.size ∧ w14.heap.size ≤ w15.heap.size) := by
      have h1 := HZs.out; have h2 := HB12.out.2; have h3 := HS13.out.size; have h4 := HS14.out.size; have h5 := HS15.out.size
      refine ⟨by omega, by omega, by omega, by omega, by omega, by omega, by omega, by omega, by omega, by omega, by omega⟩
    have HB15 : Hid (Below W.heap.size W w15) := btr HB12.out.1 HT15.out
    clear HRx2 HRy2 HRz2 HRw2 HRn HRv HU12 HZs HS13 HS14 HS15 HT15 HB12 HE12 HRb HB0 HRb11
    go_wp2_with fail
    go_loopw [28] (fun i wr => ∃ (j : Nat) (l' : List (Int × Int)), j ≤ (k + 1) ∧ i = .int .i64 j ∧ Hid ((l'.length = (k + 1) ∧ C.SOwn wr G (.slice (some ⟨G, 0, none⟩) (k + 1) ((k + 1) + 2)) l') ∧ Kr (.slice (some ⟨G, 0, none⟩) 0 0) w15 wr)) (fun i _ => (k + 1) - (intOf i).toNat)
    case atStart => exact ⟨0, l2, Nat.zero_le _, rfl, hid_and (hid_and HL2 HU15) (Kr.refl _ _)⟩
    case round =>
      obtain ⟨j, l', hj, rfl, HJ⟩ := hrel
      by_cases hlt : j < (k + 1)
      · have hlt' : (j : Int) < (((k + 1) : Nat) : Int) := by omega
        have hlt2 : (j : Int) < (k : Int) + 1 := by omega
        obtain ⟨p9, hp9⟩ := get_one l' j (by rw [HJ.out.1.1]; exact hlt)
        obtain ⟨x0, x1, x2, x3⟩ := HJ.out.1.2.cells2 hp9
        have HJ2 : Hid (((l'.set j (99, 99)).length = (k + 1) ∧ C.SOwn ((wr.setCell ⟨G, j * 2, none⟩ (.int .i64 99)).setCell ⟨G, j * 2 + 1, none⟩ (.int .i64 99)) G (.slice (some ⟨G, 0, none⟩) (k + 1) ((k + 1) + 2)) (l'.set j (99, 99))) ∧ Kr (.slice (some ⟨G, 0, none⟩) 0 0) w15 ((wr.setCell ⟨G, j * 2, none⟩ (.int .i64 99)).setCell ⟨G, j * 2 + 1, none⟩ (.int .i64 99))) := ⟨⟨by rw [List.length_set]; exact HJ.out.1.1, HJ.out.1.2.put2 99 99⟩, (HJ.out.2.set rfl _ _).set rfl _ _⟩
        clear HJ hp9
        go_wp2
        go_roundw
        case rel => exact ⟨j + 1, l'.set j (99, 99), by omega, by go_num, HJ2⟩
        case measure => simp [intOf]; omega
      · obtain rfl : j = (k + 1) := by omega
        obtain ⟨w16, hw16⟩ : ∃ x, x = wr := ⟨_, rfl⟩
        subst hw16
        have HK16 : Hid (Kr (.slice (some ⟨G, 0, none⟩) 0 0) w15 w16) := HJ.out.2
        have HG16 : Hid (∀ g, g ≠ G → w16.heap[g]? = w15.heap[g]?) := fun g hg => HK16.out.block g (fun e => hg (Option.some.inj e).symm)
        have HRx4 : Hid (Ra w16 w4.heap.size w5.heap.size aX nW cX osX r1) := HRx3.out.same (fun g h1 h2 => HG16.out g (by have := HZ15.out; omega))
        have HRy4 : Hid (Ra w16 w5.heap.size w6.heap.size aY nA cY osY r2) := HRy3.out.same (fun g h1 h2 => HG16.out g (by have := HZ15.out; omega))
        have HRz4 : Hid (Ra w16 w6.heap.size w7.heap.size aZ nW cZ osZ r1) := HRz3.out.same (fun g h1 h2 => HG16.out g (by have := HZ15.out; omega))
        have HRw4 : Hid (Ra w16 w1.heap.size w2.heap.size aW nW cW osW r1) := HRw3.out.same (fun g h1 h2 => HG16.out g (by have := HZ15.out; omega))
        have HRn4 : Hid (Ra w16 w12.heap.size w13.heap.size aN nN cN osN r3) := HRn3.out.same (fun g h1 h2 => HG16.out g (by have := HZ15.out; omega))
        have HRv4 : Hid (Ra w16 w13.heap.size w14.heap.size aV nN cV osV r3) := HRv3.out.same (fun g h1 h2 => HG16.out g (by have := HZ15.out; omega))
        have HB16 : Hid (Below W.heap.size W w16 ∧ w16.heap.size = w15.heap.size) := ⟨⟨HK16.out.os.trans HB15.out.os, HK16.out.tape.trans HB15.out.tape, HK16.out.output.trans HB15.out.output, by rw [HK16.out.size]; exact HB15.out.size, fun g hg => (HG16.out g (by have := HZ15.out; omega)).trans (HB15.out.block g hg)⟩, HK16.out.size⟩
        have hq1 := HRz4.out.rl
        have hq2 := HRw4.out.rl
        have hC := sameAll5_eq _ aZ aW nW cZ cW w16 hq1.2 (by have := HRz4.out.n2; omega) hq1.1 hq2.1
        clear HJ HRx3 HRy3 HRz3 HRw3 HRn3 HRv3 hq1 hq2 HG16 HK16
        go_wp2_with fail
        refine hC.mono ?_
        rintro e w17 ⟨rfl, hb17⟩
        have hq1 := (HRv4.out.below hb17).rl
        have hq2 := (HRn4.out.below hb17).rl
        have hC2 := sameAll5_eq _ aV aN nN cV cN w17 hq1.2 (by have := HRv4.out.n2; omega) hq1.1 hq2.1
        have HS17 : Hid (Below w16.heap.size w16 w17) := hb17
        clear hC hq1 hq2 hb17
        go_wp2_with fail
        refine hC2.mono ?_
        rintro e w18 ⟨rfl, hb18⟩
        have HT18 : Hid (Below w16.heap.size w16 w18) := btr HS17.out hb18
        have HRx5 : Hid (Ra w18 w4.heap.size w5.heap.size aX nW cX osX r1) := HRx4.out.below HT18.out
        have HRy5 : Hid (Ra w18 w5.heap.size w6.heap.size aY nA cY osY r2) := HRy4.out.below HT18.out
        have HRz5 : Hid (Ra w18 w6.heap.size w7.heap.size aZ nW cZ osZ r1) := HRz4.out.below HT18.out
        have HRw5 : Hid (Ra w18 w1.heap.size w2.heap.size aW nW cW osW r1) := HRw4.out.below HT18.out
        have HRn5 : Hid (Ra w18 w12.heap.size w13.heap.size aN nN cN osN r3) := HRn4.out.below HT18.out
        have HRv5 : Hid (Ra w18 w13.heap.size w14.heap.size aV nN cV osV r3) := HRv4.out.below HT18.out
        obtain ⟨B, hB⟩ : ∃ B, w18.heap.size = B := ⟨_, rfl⟩
        have HZ18 : Hid (w14.heap.size ≤ B ∧ w18.heap.size = B) := ⟨by have h1 := HZ15.out; have h2 := HB16.out.2; have h3 := HT18.out.size; omega, hB⟩
        have HB18 : Hid (Below W.heap.size W w18) := btr HB16.out.1 HT18.out
        have hn1 : nW ≤ 2000 := HRx5.out.n2
        have hn2 : nA ≤ 2000 := HRy5.out.n2
        have hn3 : nN ≤ 2000 := HRv5.out.n2
        have hC := claims5_any (.slice none 0 0) [] B aX nW cX osX w18 (World.ownsRow_nil _ _ _ _) (by omega) (by simp) HRx5.out.len hn1 (HRx5.out.clm (by have h1 := HZ15.out; have h2 := HZ18.out; omega))
        simp only [List.nil_append, List.length_nil] at hC
        clear hC2 hb18 HS17 HT18 HRx4 HRy4 HRz4 HRw4 HRn4 HRv4 HB16 HB15 hB
        obtain ⟨m19, hm19⟩ : ∃ x, 0 + nW = x := ⟨_, rfl⟩
        have hl19 : m19 ≤ 2000 := by omega
        rw [hm19] at hC
        have HM19 : Hid (0 + nW = m19) := hm19
        clear hm19
        go_wp2_with fail
        refine hC.mono ?_
        rintro e w19 ⟨v19, rfl, ho19, hb19⟩
        obtain ⟨a19, c19, rfl⟩ := own_sl5 ho19
        have HO19 : Hid (w19.ownsRow B 26 1 (.slice a19 m19 c19) m19 (osX.map R5o.cv)) := ho19
        have HS19 : Hid (Below B w18 w19) := hb19
        have el19 : (osX.map R5o.cv).length = m19 := by have := ho19.1; omega
        clear hC ho19 hb19
        have hC := claims5_any (.slice a19 m19 c19) (osX.map R5o.cv) B aY nA cY osY w19 (by rw [el19]; exact HO19.out) (by have := HZ18.out; have := HS19.out.size; omega) (by rw [el19]; omega) HRy5.out.len hn2 (fun V hV => HRy5.out.clm (B := B) (by have h1 := HZ15.out; have h2 := HZ18.out; omega) V (HS19.out.trans hV))
        rw [el19] at hC
        clear el19 HM19
        obtain ⟨m20, hm20⟩ : ∃ x, m19 + nA = x := ⟨_, rfl⟩
        have hl20 : m20 ≤ 4000 := by omega
        rw [hm20] at hC
        have HM20 : Hid (m19 + nA = m20) := hm20
        clear hm20
        go_wp2_with fail
        refine hC.mono ?_
        rintro e w20 ⟨v20, rfl, ho20, hb20⟩
        obtain ⟨a20, c20, rfl⟩ := own_sl5 ho20
        have HO20 : Hid (w20.ownsRow B 26 1 (.slice a20 m20 c20) m20 (osX.map R5o.cv ++ osY.map R5o.cv)) := ho20
        have HS20 : Hid (Below B w18 w20) := HS19.out.trans hb20
        have el20 : (osX.map R5o.cv ++ osY.map R5o.cv).length = m20 := by have := ho20.1; omega
        clear hC ho20 hb20
        have hC := claims5_any (.slice a20 m20 c20) (osX.map R5o.cv ++ osY.map R5o.cv) B aZ nW cZ osZ w20 (by rw [el20]; exact HO20.out) (by have := HZ18.out; have := HS20.out.size; omega) (by rw [el20]; omega) HRz5.out.len hn1 (fun V hV => HRz5.out.clm (B := B) (by have h1 := HZ15.out; have h2 := HZ18.out; omega) V (HS20.out.trans hV))
        rw [el20] at hC
        clear el20 HM20 HO19 HS19
        obtain ⟨m21, hm21⟩ : ∃ x, m20 + nW = x := ⟨_, rfl⟩
        have hl21 : m21 ≤ 6000 := by omega
        rw [hm21] at hC
        have HM21 : Hid (m20 + nW = m21) := hm21
        clear hm21
        go_wp2_with fail
        refine hC.mono ?_
        rintro e w21 ⟨v21, rfl, ho21, hb21⟩
        obtain ⟨a21, c21, rfl⟩ := own_sl5 ho21
        have HO21 : Hid (w21.ownsRow B 26 1 (.slice a21 m21 c21) m21 ((osX.map R5o.cv ++ osY.map R5o.cv) ++ osZ.map R5o.cv)) := ho21
        have HS21 : Hid (Below B w18 w21) := HS20.out.trans hb21
        have el21 : ((osX.map R5o.cv ++ osY.map R5o.cv) ++ osZ.map R5o.cv).length = m21 := by have := ho21.1; omega
        clear hC ho21 hb21
        have hC := claims5_any (.slice a21 m21 c21) ((osX.map R5o.cv ++ osY.map R5o.cv) ++ osZ.map R5o.cv) B aV nN cV osV w21 (by rw [el21]; exact HO21.out) (by have := HZ18.out; have := HS21.out.size; omega) (by rw [el21]; omega) HRv5.out.len hn3 (fun V hV => HRv5.out.clm (B := B) (by have h1 := HZ15.out; have h2 := HZ18.out; omega) V (HS21.out.trans hV))
        rw [el21] at hC
        clear el21 HM21 HO20 HS20
        obtain ⟨m22, hm22⟩ : ∃ x, m21 + nN = x := ⟨_, rfl⟩
        have hl22 : m22 ≤ 8000 := by omega
        rw [hm22] at hC
        have HM22 : Hid (m21 + nN = m22) := hm22
        clear hm22
        go_wp2_with fail
        refine hC.mono ?_
        rintro e w22 ⟨v22, rfl, ho22, hb22⟩
        obtain ⟨a22, c22, rfl⟩ := own_sl5 ho22
        have HO22 : Hid (w22.ownsRow B 26 1 (.slice a22 m22 c22) m22 (((osX.map R5o.cv ++ osY.map R5o.cv) ++ osZ.map R5o.cv) ++ osV.map R5o.cv)) := ho22
        have HS22 : Hid (Below B w18 w22) := HS21.out.trans hb22
        have el22 : (((osX.map R5o.cv ++ osY.map R5o.cv) ++ osZ.map R5o.cv) ++ osV.map R5o.cv).length = m22 := by have := ho22.1; omega
        clear hC ho22 hb22
        clear HM22 HO21 HS21
        obtain ⟨VL, hVL⟩ : ∃ x, ((osX.map R5o.cv ++ osY.map R5o.cv) ++ osZ.map R5o.cv) ++ osV.map R5o.cv = x := ⟨_, rfl⟩
        obtain ⟨w23, hw23⟩ : ∃ x, w22.alloc (.cells #[.slice none 0 0, .slice a22 m22 c22, .slice none 0 0] 73) = x := ⟨_, rfl⟩
        have HW23 : Hid (w22.alloc (.cells #[.slice none 0 0, .slice a22 m22 c22, .slice none 0 0] 73) = w23) := hw23
        have HS23 : Hid (Below B w18 w23 ∧ B ≤ w22.heap.size ∧ w22.heap.size < w23.heap.size) := by
          have h1 := HS22.out.size
          have h2 := HZ18.out.2
          rw [← hw23]
          exact ⟨HS22.out.trans ((Below.refl B w22).alloc (by omega) _), by omega, by simp⟩
        have hlo : ∀ g, g < w14.heap.size → w23.heap[g]? = w18.heap[g]? := fun g hg => HS23.out.1.block g (by have := HZ18.out; omega)
        have HRx6 : Hid (Ra w23 w4.heap.size w5.heap.size aX nW cX osX r1) := HRx5.out.same (fun g h1 h2 => hlo g (by have := HZ15.out; omega))
        have HRy6 : Hid (Ra w23 w5.heap.size w6.heap.size aY nA cY osY r2) := HRy5.out.same (fun g h1 h2 => hlo g (by have := HZ15.out; omega))
        have HRz6 : Hid (Ra w23 w6.heap.size w7.heap.size aZ nW cZ osZ r1) := HRz5.out.same (fun g h1 h2 => hlo g (by have := HZ15.out; omega))
        have HRw6 : Hid (Ra w23 w1.heap.size w2.heap.size aW nW cW osW r1) := HRw5.out.same (fun g h1 h2 => hlo g (by have := HZ15.out; omega))
        have HRn6 : Hid (Ra w23 w12.heap.size w13.heap.size aN nN cN osN r3) := HRn5.out.same (fun g h1 h2 => hlo g (by have := HZ15.out; omega))
        have HRv6 : Hid (Ra w23 w13.heap.size w14.heap.size aV nN cV osV r3) := HRv5.out.same (fun g h1 h2 => hlo g (by have := HZ15.out; omega))
        have HVm : Hid (∀ v ∈ VL, ∀ g, v.ownBlock = some g → w4.heap.size ≤ g ∧ g < w14.heap.size) := fun v hv g hg => by
          rw [← hVL] at hv
          have hz := HZ15.out
          rcases four_mem hv with ⟨q, hq, rfl⟩ | ⟨q, hq, rfl⟩ | ⟨q, hq, rfl⟩ | ⟨q, hq, rfl⟩
          · have := (HRx6.out.mem hq).2.1 g hg; omega
          · have := (HRy6.out.mem hq).2.1 g hg; omega
          · have := (HRz6.out.mem hq).2.1 g hg; omega
          · have := (HRv6.out.mem hq).2.1 g hg; omega
        -- whose rows' blocks are none of the claims'
        have HNx : Hid (∀ v ∈ VL, ∀ g, (Value.slice aX nW cX).ownBlock = some g → v.ownBlock ≠ some g) := fun v hv g hg e => by
          rw [← hVL] at hv
          have hz := HZ15.out
          have hr := HRx6.out.r5.row.lt g hg
          have ht := HRx6.out.hi g hg
          rcases four_mem hv with ⟨q, hq, rfl⟩ | ⟨q, hq, rfl⟩ | ⟨q, hq, rfl⟩ | ⟨q, hq, rfl⟩
          · obtain ⟨i, hi⟩ := List.getElem?_of_mem hq
            exact HRx6.out.r5.off i q g hi e hg
          · have := (HRy6.out.mem hq).2.1 g e; omega
          · have := (HRz6.out.mem hq).2.1 g e; omega
          · have := (HRv6.out.mem hq).2.1 g e; omega
        have HNz : Hid (∀ v ∈ VL, ∀ g, (Value.slice aZ nW cZ).ownBlock = some g → v.ownBlock ≠ some g) := fun v hv g hg e => by
          rw [← hVL] at hv
          have hz := HZ15.out
          have hr := HRz6.out.r5.row.lt g hg
          have ht := HRz6.out.hi g hg
          rcases four_mem hv with ⟨q, hq, rfl⟩ | ⟨q, hq, rfl⟩ | ⟨q, hq, rfl⟩ | ⟨q, hq, rfl⟩
          · have := (HRx6.out.mem hq).2.1 g e; omega
          · have := (HRy6.out.mem hq).2.1 g e; omega
          · obtain ⟨i, hi⟩ := List.getElem?_of_mem hq
            exact HRz6.out.r5.off i q g hi e hg
          · have := (HRv6.out.mem hq).2.1 g e; omega
        have HNv : Hid (∀ v ∈ VL, ∀ g, (Value.slice aV nN cV).ownBlock = some g → v.ownBlock ≠ some g) := fun v hv g hg e => by
          rw [← hVL] at hv
          have hz := HZ15.out
          have hr := HRv6.out.r5.row.lt g hg
          have ht := HRv6.out.hi g hg
          rcases four_mem hv with ⟨q, hq, rfl⟩ | ⟨q, hq, rfl⟩ | ⟨q, hq, rfl⟩ | ⟨q, hq, rfl⟩
          · have := (HRx6.out.mem hq).2.1 g e; omega
          · have := (HRy6.out.mem hq).2.1 g e; omega
          · have := (HRz6.out.mem hq).2.1 g e; omega
          · obtain ⟨i, hi⟩ := List.getElem?_of_mem hq
            exact HRv6.out.r5.off i q g hi e hg
        have HNn : Hid (∀ v ∈ VL, ∀ g, (Value.slice aN nN cN).ownBlock = some g → v.ownBlock ≠ some g) := fun v hv g hg e => by
          rw [← hVL] at hv
          have hz := HZ15.out
          have hr := HRn6.out.r5.row.lt g hg
          have ht := HRn6.out.hi g hg
          rcases four_mem hv with ⟨q, hq, rfl⟩ | ⟨q, hq, rfl⟩ | ⟨q, hq, rfl⟩ | ⟨q, hq, rfl⟩
          · have := (HRx6.out.mem hq).2.1 g e; omega
          · have := (HRy6.out.mem hq).2.1 g e; omega
          · have := (HRz6.out.mem hq).2.1 g e; omega
          · have := (HRv6.out.mem hq).2.1 g e; omega
        have hOw : Calls Tryd.prog 30 #[.pointer (some ⟨w22.heap.size, 0, none⟩)] w23 fun e w' => e = .returned (.bool true) ∧ Kx VL w23 w' := by
          have hf := four_own HRx6.out HRy6.out HRz6.out HRv6.out (by have := HZ15.out; omega)
          have hp := four_prt HRx6.out HRy6.out HRz6.out HRv6.out (by have := HZ15.out; omega)
          rw [hVL] at hf hp el22 HO22
          refine owned_list2 (B := w4.heap.size) (cap := c22) (al := a22) (vs := VL) (Cs := fun j => (((((osX ++ osY) ++ osZ) ++ osV)[j]?.map (fun o : R5o => o.r.clm)).getD [])) ?_ ?_ hp hf.1 ?_ (by omega) hf.2
          · rw [el22, ← hw23]; exact al_new _ _
          · by_cases h0 : VL = []
            · exact .inl h0
            · obtain ⟨gl, cap, hv⟩ := C.own_some HO22.out (by have := List.length_pos_iff.mpr h0; omega)
              simp only [Value.slice.injEq] at hv
              obtain ⟨rfl, _, rfl⟩ := hv
              have hgl := HO22.out.lt gl rfl
              refine .inr ⟨gl, rfl, fun i v hv => ?_, fun v hv e => by have h1 := HVm.out v hv gl e; have h2 := HZ18.out; omega⟩
              have hil : i < m22 := by have := (List.getElem?_eq_some_iff.mp hv).1; omega
              rw [← hw23]
              exact (World.cell?_of_block (a := ⟨gl, i, none⟩) (((Below.refl w22.heap.size w22).alloc (Nat.le_refl _) _).block gl hgl.2)).trans ((HO22.out.cellAt i (by omega)).trans hv)
          · intro v hv e
            have h1 := HVm.out v hv _ e
            have h2 := HZ18.out
            have h3 := HS23.out
            omega
        have HB23 : Hid (Below W.heap.size W w23) := HB18.out.trans (HS23.out.1.mono (by have h1 := HZ15.out; have h2 := HZ18.out; omega))
        clear hlo hw23 el22 HO22 HS22 HRx5 HRy5 HRz5 HRw5 HRn5 HRv5 HB18 hVL
        go_wp2_with fail
        rw [HW23.out]
        refine hOw.mono ?_
        rintro e w24 ⟨rfl, hk24⟩
        have hz := HZ15.out
        have HX24 : Hid (w24.ownsRow w4.heap.size 75 5 (.slice aX nW cX) nW (rpC osX)) := by
          have h := HRx6.out.r5.row
          rw [HRx6.out.len] at h
          exact C.own_blk2 h (fun g hg => hk24.block g (h.lt g hg).2 (fun v hv => HNx.out v hv g hg))
        have HCz : Hid (∀ g, (Value.slice aZ nW cZ).ownBlock = some g → w24.heap[g]? = w23.heap[g]? ∧ (Value.slice aX nW cX).ownBlock ≠ some g) := fun g hg => ⟨hk24.block g (HRz6.out.r5.row.lt g hg).2 (fun v hv => HNz.out v hv g hg), fun e => by have := HRx6.out.hi g e; have := (HRz6.out.r5.row.lt g hg).1; omega⟩
        have HCv : Hid (∀ g, (Value.slice aV nN cV).ownBlock = some g → w24.heap[g]? = w23.heap[g]? ∧ (Value.slice aX nW cX).ownBlock ≠ some g) := fun g hg => ⟨hk24.block g (HRv6.out.r5.row.lt g hg).2 (fun v hv => HNv.out v hv g hg), fun e => by have := HRx6.out.hi g e; have := (HRv6.out.r5.row.lt g hg).1; omega⟩
        have HCn : Hid (∀ g, (Value.slice aN nN cN).ownBlock = some g → w24.heap[g]? = w23.heap[g]? ∧ (Value.slice aX nW cX).ownBlock ≠ some g) := fun g hg => ⟨hk24.block g (HRn6.out.r5.row.lt g hg).2 (fun v hv => HNn.out v hv g hg), fun e => by have := HRx6.out.hi g e; have := (HRn6.out.r5.row.lt g hg).1; omega⟩
        have HCw : Hid (∀ g, (Value.slice aW nW cW).ownBlock = some g → w24.heap[g]? = w23.heap[g]? ∧ (Value.slice aX nW cX).ownBlock ≠ some g) := fun g hg => ⟨hk24.block g (HRw6.out.r5.row.lt g hg).2 (fun v hv e => by have := HVm.out v hv g e; have := HRw6.out.hi g hg; omega), fun e => by have := (HRx6.out.r5.row.lt g e).1; have := HRw6.out.hi g hg; omega⟩
        have HB24 : Hid (Below W.heap.size W w24 ∧ W.heap.size ≤ w4.heap.size) := ⟨⟨hk24.os.trans HB23.out.os, hk24.tape.trans HB23.out.tape, hk24.output.trans HB23.out.output, Nat.le_trans HB23.out.size hk24.size, fun g hg => (hk24.block g (Nat.lt_of_lt_of_le hg HB23.out.size) (fun v hv e => by have := HVm.out v hv g e; omega)).trans (HB23.out.block g hg)⟩, by omega⟩
        have HSz : Hid (w4.heap.size ≤ w24.heap.size ∧ w23.heap.size ≤ w24.heap.size) := ⟨by have h1 := hk24.size; have h2 := HS23.out; have h3 := HZ18.out; omega, hk24.size⟩
        clear hOw hk24 HNx HNz HNv HNn HVm HW23 HS23 HB23 hz
        have hqn : ∀ (w : World) (a : Option Addr) (l c : Nat), (binOp .neq 61 (.slice a l c) (.slice none 0 0)).run Tryd.prog w = .ok (.bool (!a.isNone)) w := fun w a l c => run_neq_nil5 w _ _ a l c Tryd.underlying61
        obtain ⟨i0, hi0, hz0, hy0, hb0⟩ := info_parts Tryd.info_report
        go_wp2_with fail
        go_loopw [34] (fun i wr => ∃ (j : Nat) (xs : List Value), j ≤ nW ∧ i = .int .i64 j ∧ Hid (wr.ownsRow w4.heap.size 75 5 (.slice aX nW cX) nW xs ∧ Kr (.slice aX nW cX) w24 wr)) (fun i _ => nW - (intOf i).toNat)
        case atStart => exact ⟨0, rpC osX, Nat.zero_le _, rfl, hid_and HX24 (Kr.refl _ _)⟩
        case round =>
          obtain ⟨j, xs, hj, rfl, HJ⟩ := hrel
          by_cases hlt : j < nW
          · have hlt' : (j : Int) < (nW : Int) := by omega
            obtain ⟨gx, capx, hvx⟩ := C.own_some HJ.out.1 (by omega)
            simp only [Value.slice.injEq] at hvx
            obtain ⟨rfl, _, rfl⟩ := hvx
            obtain ⟨q0, q1, q2, q3, q4, k0, k1, k2, k3, k4, f0, f1, f2, f3, f4⟩ := row_cells5 HJ.out.1 hlt
            have HJ2 : Hid (∃ xs', (((((wr.setCell ⟨gx, j * 5, none⟩ (.int .i64 (-9))).setCell ⟨gx, j * 5 + 1, none⟩ (.int .i64 0)).setCell ⟨gx, j * 5 + 2, none⟩ (.int .i64 0)).setCell ⟨gx, j * 5 + 3, none⟩ (.int .i64 0)).setCell ⟨gx, j * 5 + 4, none⟩ (.slice none 0 0)).ownsRow w4.heap.size 75 5 (.slice (some ⟨gx, 0, none⟩) nW cX) nW xs') := row_store5 HJ.out.1 _ _ _ _ _
            have HK2 : Hid (Kr (.slice (some ⟨gx, 0, none⟩) nW cX) w24 (((((wr.setCell ⟨gx, j * 5, none⟩ (.int .i64 (-9))).setCell ⟨gx, j * 5 + 1, none⟩ (.int .i64 0)).setCell ⟨gx, j * 5 + 2, none⟩ (.int .i64 0)).setCell ⟨gx, j * 5 + 3, none⟩ (.int .i64 0)).setCell ⟨gx, j * 5 + 4, none⟩ (.slice none 0 0))) := ((((HJ.out.2.set rfl _ _).set rfl _ _).set rfl _ _).set rfl _ _).set rfl _ _
            clear HJ
            go_wp2
            go_roundw
            case rel =>
              obtain ⟨xs', hxs'⟩ := HJ2.out
              exact ⟨j + 1, xs', by omega, by go_num, hid_and hxs' HK2⟩
            case measure => simp [intOf]; omega
          · obtain rfl : j = nW := by omega
            have hlt' : ¬ (j : Int) < (j : Int) := by omega
            obtain ⟨w25, hw25⟩ : ∃ x, x = wr := ⟨_, rfl⟩
            subst hw25
            have HR25 : Hid ((w25.alloc (.cells #[.int .i64 (-8), .int .i64 0, .int .i64 0, .int .i64 0, .slice none 0 0, .int .i64 (-8), .int .i64 0, .int .i64 0, .int .i64 0, .slice none 0 0] 75)).ownsRow w4.heap.size 75 5 (.slice aX j cX) j xs) := C.own_blk2 HJ.out.1 (fun g hg => ((Below.refl w25.heap.size w25).alloc (Nat.le_refl _) (.cells #[.int .i64 (-8), .int .i64 0, .int .i64 0, .int .i64 0, .slice none 0 0, .int .i64 (-8), .int .i64 0, .int .i64 0, .int .i64 0, .slice none 0 0] 75)).block g (HJ.out.1.lt g hg).2)
            have HK25 : Hid (Kr (.slice aX j cX) w24 w25) := HJ.out.2
            have hw4s : w4.heap.size ≤ w25.heap.size := by
              have h1 := HK25.out.size; have h2 := HB24.out.1.size; have h3 := HZ15.out; have h4 := HZ18.out; have h5 := HX24.out
              have h6 := HSz.out
              omega
            clear HJ
            go_wp2_with (at_builtin; refine wpList_append_own_at _ rfl _ _ 61 rfl w4.heap.size 75 i0 _ 5 56 Tryd.underlying61 hi0 hz0 hy0 hb0 rfl (by decide) _ _ _ rfl HR25.out ⟨w25.heap.size, 0, none⟩ 2 2 [.int .i64 (-8), .int .i64 0, .int .i64 0, .int .i64 0, .slice none 0 0, .int .i64 (-8), .int .i64 0, .int .i64 0, .int .i64 0, .slice none 0 0] rfl rfl (lit10 _) (one10) (by unfold maxLen; omega) (by omega) (by simp; omega) ?_; intro v26 w26 o26 g26 _ t26; obtain ⟨a26, c26, rfl⟩ := own_sl5 o26)
            have HG26 : Hid (∀ g, g < w25.heap.size → (Value.slice aX j cX).ownBlock ≠ some g → w26.heap[g]? = w25.heap[g]?) := fun g hg hn => (g26.block g (by simp; omega) (fun e => hn e.symm)).trans (((Below.refl w25.heap.size w25).alloc (Nat.le_refl _) _).block g hg)
            have HB26 : Hid (Below W.heap.size W w26) := by
              have h1 := HB24.out.1
              have h2 := HK25.out
              refine ⟨g26.os.trans (h2.os.trans h1.os), g26.tape.trans (h2.tape.trans h1.tape), g26.output.trans (h2.output.trans h1.output), Nat.le_trans h1.size (by rw [← h2.size]; exact Nat.le_trans (by simp) g26.size), fun g hg => ?_⟩
              have h3 : (Value.slice aX j cX).ownBlock ≠ some g := fun e => by have := (HR25.out.lt g e).1; have := HB24.out.2; omega
              exact (HG26.out g (by rw [h2.size]; exact Nat.lt_of_lt_of_le hg h1.size) h3).trans ((h2.block g h3).trans (h1.block g hg))
            have HAll : Hid (∀ g, w24.heap[g]? = w23.heap[g]? ∧ (Value.slice aX j cX).ownBlock ≠ some g → g < w23.heap.size → w26.heap[g]? = w23.heap[g]?) := fun g h hg => (HG26.out g (by rw [HK25.out.size]; exact Nat.lt_of_lt_of_le hg HSz.out.2) h.2).trans ((HK25.out.block g h.2).trans h.1)
            have HSz1 : Hid (∀ (i : Nat) r, r1[i]? = some r → ∃ g, aZ = some ⟨g, 0, none⟩ ∧ w26.cell? ⟨g, i * 5, none⟩ = some (.int .i64 r.ser)) := HRz6.out.sers (fun g hg => HAll.out g (HCz.out g hg) (HRz6.out.r5.row.lt g hg).2)
            have HSw1 : Hid (∀ (i : Nat) r, r1[i]? = some r → ∃ g, aW = some ⟨g, 0, none⟩ ∧ w26.cell? ⟨g, i * 5, none⟩ = some (.int .i64 r.ser)) := HRw6.out.sers (fun g hg => HAll.out g (HCw.out g hg) (HRw6.out.r5.row.lt g hg).2)
            have HSv1 : Hid (∀ (i : Nat) r, r3[i]? = some r → ∃ g, aV = some ⟨g, 0, none⟩ ∧ w26.cell? ⟨g, i * 5, none⟩ = some (.int .i64 r.ser)) := HRv6.out.sers (fun g hg => HAll.out g (HCv.out g hg) (HRv6.out.r5.row.lt g hg).2)
            have HSn1 : Hid (∀ (i : Nat) r, r3[i]? = some r → ∃ g, aN = some ⟨g, 0, none⟩ ∧ w26.cell? ⟨g, i * 5, none⟩ = some (.int .i64 r.ser)) := HRn6.out.sers (fun g hg => HAll.out g (HCn.out g hg) (HRn6.out.r5.row.lt g hg).2)
            have HL1 : Hid (r1.length = j) := HRz6.out.rowlen
            have HL3 : Hid (r3.length = nN) := HRv6.out.rowlen
            have hAV : aV = none ∨ ∃ g, aV = some ⟨g, 0, none⟩ := by
              rcases HRv6.out.r5.row.2 with ⟨q, _⟩ | ⟨g, cap, cur, q, _⟩
              · simp only [Value.slice.injEq] at q; exact .inl q.1
              · simp only [Value.slice.injEq] at q; exact .inr ⟨g, q.1⟩
            clear o26 g26 t26 HR25 HK25 HG26 HAll HCz HCw HCv HCn HRx6 HRy6 HRz6 HRw6 HRn6 HRv6 HX24 HB24 HZ15 HZ18 HSz
            go_wp2_with fail
            go_loopw [35] (fun i wr => ∃ q : Nat, q ≤ j ∧ i = .int .i64 q ∧ Below w26.heap.size w26 wr) (fun i _ => j - (intOf i).toNat)
            case atStart => exact ⟨0, Nat.zero_le _, rfl, Below.refl _ _⟩
            case round =>
              obtain ⟨q, hq, rfl, hbw⟩ := hrel
              have HBw : Hid (Below w26.heap.size w26 wr) := hbw
              by_cases hqj : q < j
              · have hqj' : (q : Int) < (j : Int) := by omega
                obtain ⟨r, hr⟩ := get_one r1 q (by rw [HL1.out]; exact hqj)
                obtain ⟨gz, rfl, x0⟩ := HSz1.out q r hr
                obtain ⟨gw, rfl, x1⟩ := HSw1.out q r hr
                have x0 := cell_below x0 hbw
                have x1 := cell_below x1 hbw
                rcases hAV with rfl | ⟨gv, rfl⟩
                · clear hbw hr
                  go_wp2_with fail
                  go_quiet (fail)
                  go_wp2
                  go_roundw
                  case rel => exact ⟨q + 1, by omega, by go_num, below_drewN' HBw.out _⟩
                  case measure => simp [intOf]; omega
                · by_cases hqn2 : q < nN
                  · have hqn' : (q : Int) < (nN : Int) := by omega
                    obtain ⟨r', hr'⟩ := get_one r3 q (by rw [HL3.out]; exact hqn2)
                    obtain ⟨gv', he, x2⟩ := HSv1.out q r' hr'
                    cases he
                    obtain ⟨gn, rfl, x3⟩ := HSn1.out q r' hr'
                    have x2 := cell_below x2 hbw
                    have x3 := cell_below x3 hbw
                    clear hbw hr hr'
                    go_wp2_with fail
                    go_quiet (fail)
                    go_wp2
                    go_roundw
                    case rel => exact ⟨q + 1, by omega, by go_num, below_drewN' HBw.out _⟩
                    case measure => simp [intOf]; omega
                  · have hqn' : ¬ (q : Int) < (nN : Int) := by omega
                    have hqd : decide ((q : Int) < (nN : Int)) = false := by simp; omega
                    clear hbw hr
                    go_wp2_with fail
                    go_quiet (fail)
                    go_wp2
                    go_roundw
                    case rel => exact ⟨q + 1, by omega, by go_num, below_drewN' HBw.out _⟩
                    case measure => simp [intOf]; omega
              · have hqj' : ¬ (q : Int) < (j : Int) := by omega
                have HF : Hid (Below W.heap.size W wr) := btr HB26.out hbw
                have h2j : (2 : Int) ≤ (j : Int) + 2 := by omega
                clear hbw
                go_wp2
                first | exact ⟨rfl, HF.out⟩ | (go_ret; exact ⟨rfl, HF.out⟩)


end Go.Proofs.YthbkabehjeidjaeDoor
