import Derived.Test.YtcfodcioeefbeaaDoorXpC
namespace Go.Proofs.YtcfodcioeefbeaaDoor.X
open Go.RowKit Go.Maps
set_option linter.unusedVariables false
set_option linter.unusedSimpArgs false

def srC (k : Pk) (bv : Value) : Array Value := #[.int .i64 k.org, .int .i64 k.num, .int .i64 k.srv, .int .i64 k.size, .int .i64 k.red, .int .i64 k.mtu, .int .i64 k.every, bv]
theorem sr_cells {W : World} {b : Nat} {k : Pk} {bv : Value} (h : W.heap[b]? = some (.cells (srC k bv) 59)) :
    W.cell? ⟨b, 0, none⟩ = some (.int .i64 k.org) ∧ W.cell? ⟨b, 1, none⟩ = some (.int .i64 k.num) ∧ W.cell? ⟨b, 2, none⟩ = some (.int .i64 k.srv) ∧ W.cell? ⟨b, 3, none⟩ = some (.int .i64 k.size) ∧ W.cell? ⟨b, 4, none⟩ = some (.int .i64 k.red) ∧ W.cell? ⟨b, 5, none⟩ = some (.int .i64 k.mtu) ∧ W.cell? ⟨b, 6, none⟩ = some (.int .i64 k.every) ∧ W.cell? ⟨b, 7, none⟩ = some bv :=
  ⟨(cell_of_row _ _ _ _ _ _ h).trans rfl, (cell_of_row _ _ _ _ _ _ h).trans rfl, (cell_of_row _ _ _ _ _ _ h).trans rfl, (cell_of_row _ _ _ _ _ _ h).trans rfl, (cell_of_row _ _ _ _ _ _ h).trans rfl, (cell_of_row _ _ _ _ _ _ h).trans rfl, (cell_of_row _ _ _ _ _ _ h).trans rfl, (cell_of_row _ _ _ _ _ _ h).trans rfl⟩
/-- What a piece's segment is. -/
def SgP (g : Sg) (w : World) (e : Ending) (w' : World) : Prop := ∃ ad cd, e = .returned (.agg (svC g (.slice none 0 0) (.slice none 0 0) (.slice ad g.data.length cd) (.slice none 0 0))) ∧ w'.ownsRow w.heap.size 5 1 (.slice ad g.data.length cd) g.data.length (g.data.map (Value.int .u8)) ∧ Below w.heap.size w w'
set_option maxRecDepth 100000 in
set_option maxHeartbeats 8000000 in
theorem seg_any (k : Pk) (x : Pc) (a : Option Addr) (zs : List Int) (len cap : Nat) (w : World) (hl : zs.length = len) (hlc : len ≤ cap) (hc : Lies .u8 w a zs) (hn : a = none → len = 0 ∧ cap = 0) :
    Calls Tryd.prog 16 #[.agg (srC k (.slice a len cap)), .agg (pcC x)] w (SgP (mk k x zs).1 w) := by
  obtain ⟨b, hb⟩ : ∃ b, w.heap.size = b := ⟨_, rfl⟩
  obtain ⟨V1, hV1⟩ : ∃ V, w.alloc (.cells (srC k (.slice a len cap)) 59) = V := ⟨_, rfl⟩
  obtain ⟨V2, hV2⟩ : ∃ V, V1.alloc (.cells (pcC x) 56) = V := ⟨_, rfl⟩
  obtain ⟨V3, hV3⟩ : ∃ V, V2.alloc zsO = V := ⟨_, rfl⟩
  have z1 : V1.heap.size = b + 1 := by rw [← hV1, ← hb]; simp
  have z2 : V2.heap.size = b + 2 := by rw [← hV2]; simp [z1]
  have B1 : Below w.heap.size w V1 := by rw [← hV1]; exact (Below.refl _ _).alloc (Nat.le_refl _) _
  have B2 : Below V1.heap.size V1 V2 := by rw [← hV2]; exact (Below.refl _ _).alloc (Nat.le_refl _) _
  have B3 : Below V2.heap.size V2 V3 := by rw [← hV3]; exact (Below.refl _ _).alloc (Nat.le_refl _) _
  have g1 : V1.heap[b]? = some (.cells (srC k (.slice a len cap)) 59) := by rw [← hV1, ← hb]; exact heap_alloc_new' w _
  have g2 : V2.heap[b + 1]? = some (.cells (pcC x) 56) := by rw [← hV2, ← z1]; exact heap_alloc_new' V1 _
  have g3 : V3.heap[b + 2]? = some zsO := by rw [← hV3, ← z2]; exact heap_alloc_new' V2 _
  have hB : Below w.heap.size w V3 := B1.trans ((B2.trans (B3.mono B2.size)).mono B1.size)
  obtain ⟨q0, q1, q2, q3, q4, q5, q6, q7⟩ := sr_cells ((B3.block b (by omega)).trans ((B2.block b (by omega)).trans g1))
  obtain ⟨p0, p1, p2, p3, p4, _⟩ := box5 ((B3.block (b + 1) (by omega)).trans g2)
  have hM := make_any k x a zs len cap V3 hl hlc (hc.below hB) hn
  obtain ⟨g, hg⟩ : ∃ g, (mk k x zs).1 = g := ⟨_, rfl⟩
  have hM' : Calls Tryd.prog 23 #[.agg #[.int .i64 k.org, .int .i64 k.num], .agg (pclC k), .agg (pcC x), .slice a len cap] V3 fun e w' => ∃ ad cd er, e = .returned (.tuple #[.agg (svC g (.slice none 0 0) (.slice none 0 0) (.slice ad g.data.length cd) (.slice none 0 0)), .int .i64 er]) ∧ w'.ownsRow V3.heap.size 5 1 (.slice ad g.data.length cd) g.data.length (g.data.map (Value.int .u8)) ∧ Below V3.heap.size V3 w' := hM.mono fun e w' q => by
    obtain ⟨ad, cd, h1, h2, h3⟩ := q
    rw [hg] at h1 h2
    exact ⟨ad, cd, _, h1, h2, h3⟩
  rw [hg]
  have HW : Hid (w.alloc (.cells (srC k (.slice a len cap)) 59) = V1 ∧ V1.alloc (.cells (pcC x) 56) = V2 ∧ V2.alloc zsO = V3 ∧ w.heap.size = b ∧ V1.heap.size = b + 1 ∧ V2.heap.size = b + 2) := ⟨hV1, hV2, hV3, hb, z1, z2⟩
  have HB : Hid (Below w.heap.size w V3 ∧ V3.heap[b + 2]? = some zsO) := ⟨hB, g3⟩
  clear hl hlc hc hn hV1 hV2 hV3 z1 z2 B1 B2 B3 g1 g2 g3 hB hM hg
  go_enter Tryd.func16, Tryd.ntmps16
  go_upto_region 1 with fail
  try rw [hb]
  rw [HW.out.1, HW.out.2.1, HW.out.2.2.1]
  try rw [HW.out.2.2.2.2.1]
  try rw [HW.out.2.2.2.2.2]
  clear hb
  go_upto_region 2 with (go_at_call 23; refine hM'.mono ?_; rintro e w2 ⟨ad, cd, er, rfl, hown, hb2⟩; have H2 : Hid (w2.ownsRow V3.heap.size 5 1 (.slice ad g.data.length cd) g.data.length (g.data.map (Value.int .u8)) ∧ Below V3.heap.size V3 w2) := ⟨hown, hb2⟩; clear hown hb2 hM')
  clear q0 q1 q2 q3 q4 q5 q6 q7 p0 p1 p2 p3 p4
  obtain ⟨V5, hV5⟩ : ∃ V, w2.alloc (svO g (.slice none 0 0) (.slice none 0 0) (.slice ad g.data.length cd) (.slice none 0 0)) = V := ⟨_, rfl⟩
  have B5 : Below w2.heap.size w2 V5 := by rw [← hV5]; exact (Below.refl _ _).alloc (Nat.le_refl _) _
  have g5 : V5.heap[w2.heap.size]? = some (svO g (.slice none 0 0) (.slice none 0 0) (.slice ad g.data.length cd) (.slice none 0 0)) := by rw [← hV5]; exact heap_alloc_new' w2 _
  have hlt := (Array.getElem?_eq_some_iff.1 HB.out.2).1
  have H5 : Hid (Below w.heap.size w V5 ∧ V5.heap[b + 2]? = some zsO ∧ V5.ownsRow V3.heap.size 5 1 (.slice ad g.data.length cd) g.data.length (g.data.map (Value.int .u8)) ∧ b + 2 < V3.heap.size ∧ w.heap.size = b) := ⟨HB.out.1.trans ((H2.out.2.trans (B5.mono H2.out.2.size)).mono HB.out.1.size), (B5.block _ (Nat.lt_of_lt_of_le hlt H2.out.2.size)).trans ((H2.out.2.block _ hlt).trans HB.out.2), own_at H2.out.1 (fun y hy => B5.block y (World.ownsRow.lt H2.out.1 y hy).2), hlt, HW.out.2.2.2.1⟩
  obtain ⟨s0, s1, s2, s3, s4, s5, s6, s7, s8, s9, s10, s11, s12, s13⟩ := sg_cells g5
  rw [hV5]
  clear hV5 B5 g5 hlt HB HW H2
  have HZ3 : Hid ((V5.setRow (b + 2) (svC g (.slice none 0 0) (.slice none 0 0) (.slice ad g.data.length cd) (.slice none 0 0))).heap[b + 2]? = some (svO g (.slice none 0 0) (.slice none 0 0) (.slice ad g.data.length cd) (.slice none 0 0))) := setRow_heap _ _ _ _ _ _ H5.out.2.1
  go_wp2_with (refine wpList_store_row rfl 45 _ _ rfl (b + 2) _ rfl rfl 45 _ H5.out.2.1 size_sgm rfl (by simp [Value.oneCell']) ?_)
  have hlv := fun j => cell_of_row _ (b + 2) j _ _ _ HZ3.out
  refine bodyPost_ret (v := .agg (svC g (.slice none 0 0) (.slice none 0 0) (.slice ad g.data.length cd) (.slice none 0 0))) (by simp [results, Tryd.results16, go_sem, hlv]) rfl ?_
  have hgr := grown_row V5 (b + 2) (svC g (.slice none 0 0) (.slice none 0 0) (.slice ad g.data.length cd) (.slice none 0 0))
  refine ⟨ad, cd, rfl, ?_, ?_⟩
  · exact own_low (own_at H5.out.2.2.1 (fun y hy => hgr.block y (World.ownsRow.lt H5.out.2.2.1 y hy).2 (fun e => by have h1 := (World.ownsRow.lt H5.out.2.2.1 y hy).1; have h2 := Option.some.inj e; have := H5.out.2.2.2.1; omega))) (by have := H5.out.2.2.2.1; have := H5.out.2.2.2.2; omega)
  · exact below_setRow H5.out.1 (by have := H5.out.2.2.2.2; omega) _
end Go.Proofs.YtcfodcioeefbeaaDoor.X
