import Derived.Test.YtgmbpagbiakciadDoorBkWlk
import Derived.Test.YtgmbpagbiakciadDoorStp
import Derived.Deep.RegionWith
import Derived.Deep.CutRange
import Derived.Deep.RegionLaw
import Derived.Laws.CopyOwn
namespace Go.Proofs.YtgmbpagbiakciadDoor.C
open Go.RowKit Go.Shelf
attribute [local go_sem] Oper.semAt_some

theorem heapD {W : World} {i : Nat} {o : Obj} (h : W.heap[i]? = some o) (ob : Obj) : (W.alloc ob).heap[i]? = some o :=
  (Below.heap_alloc W ob i (by obtain ⟨hi, _⟩ := Array.getElem?_eq_some_iff.mp h; exact hi)).trans h
/-- An outcome that is no panic. -/
def calmT (Q : Exit → Act → World → Prop) : Exit → Act → World → Prop
  | .panic _, _, _ => False
  | e, a, w => Q e a w
theorem calmT_le {Q : Exit → Act → World → Prop} {e : Exit} {a : Act} {w : World} (h : calmT Q e a w) : Q e a w := by
  cases e <;> first | exact h | exact h.elim

theorem run_append_zeros {P : Program} (w : World) (t u ty e : TypeId) (i : TypeInfo) (z : Value) (ht : P.underlying t = some (.slice e)) (hu : P.underlying u = some (.int .i64)) (hi : P.info? e = some i) (hz : i.zero = some z)
    (n : Nat) (h0 : 0 < n) (hs : i.size = 1) (h63 : (n : Int) ≤ 9223372036854775807) (h48 : n * i.bytes ≤ 281474976710656) :
    (Builtin.append_ #[t, u] ty #[.slice none 0 0, .int .i64 n]).run P w =
      .ok (.slice (some ⟨w.heap.size, 0, none⟩) n (grownCap w n 0 e)) (w.drew.alloc (.cells (Builtin.zeroCells z.cells n ++ Builtin.zeroCells z.cells (grownCap w n 0 e - n)) e)) := by
  have hn : n ≠ 0 := by omega
  have h63' : ¬ (9223372036854775807 < (n : Int)) := by omega
  have h48' : ¬ (281474976710656 < Builtin.nextslicecap n 0 * i.bytes) := by rw [nextslicecap_zero h0]; omega
  have hwr : IntKind.i64.wrap (n : Int) = n := by rw [IntKind.wrap_i64]; omega
  have hb : ¬ ((281474976710656 : Int) < (n : Int) * (i.bytes : Int)) := by
    have : (n : Int) * (i.bytes : Int) = ((n * i.bytes : Nat) : Int) := by simp
    rw [this]; omega
  have hneg : ¬ ((n : Int) < 0) := by omega
  simp [Builtin.append_, run_underlying ht, run_underlying hu, sizeOf, typeInfo, zeroValue, hi, hz, hn, h63', h48', hwr, hb, hneg, hs, asInt, asIntOf, Question.forced, run_firstCells_none, newRow, grownCap]

theorem step_zeros {P : Program} {ops : Array Oper} {o : Oper} {a : Act} {w : World} {K : Act → World → Prop} {Q : Exit → Act → World → Prop} {E : Prop}
    (hg : o.guard = none) (s x : Operand) (t u : TypeId) (hop : o.op = Op.call { callee := Callee.builtin Builtin.append, args := #[s, x], argTypes := #[t, u] })
    (e : TypeId) (i : TypeInfo) (z : Value) (ht : P.underlying t = some (.slice e)) (hu : P.underlying u = some (.int .i64)) (hi : P.info? e = some i) (hz : i.zero = some z)
    (n : Nat) (h0 : 0 < n) (hs : i.size = 1) (h63 : (n : Int) ≤ 9223372036854775807) (h48 : n * i.bytes ≤ 281474976710656)
    (hes : a.eval s = .slice none 0 0) (hex : a.eval x = .int .i64 n)
    (hK : ∀ cap w', n ≤ cap → w' = w.drew.alloc (.cells (Builtin.zeroCells z.cells n ++ Builtin.zeroCells z.cells (cap - n)) e) → K (a.put o.dst (.slice (some ⟨w.heap.size, 0, none⟩) n cap)) w') :
    if Region.wanted o (yielded ops a.tmps) = true then Oper.wp P o a w K Q else E := by
  have hw : Region.wanted o (yielded ops a.tmps) = true := by simp [Region.wanted, hg]
  rw [if_pos hw]
  have hrun := run_append_zeros (P := P) w t u o.type e i z ht hu hi hz n h0 hs h63 h48
  unfold Oper.wp
  simp [execOp, hop, resolve, invoke, builtin, hes, hex, hrun, Result.andThen]
  exact hK _ _ (grownCap_ge w n 0 e) rfl
theorem row_setC {w : World} {b j : Nat} {cs : Array Value} {u : Value} {t : TypeId} (h : w.heap[b]? = some (.cells cs t (0, 0))) : (w.setCell ⟨b, j, none⟩ u).heap[b]? = some (.cells (cs.setIfInBounds j u) t (0, 0)) := by
  simp [World.setCell, Array.getElem?_modify, h]
theorem zero6 : Builtin.zeroCells #[Value.int .u8 0] 6 = #[.int .u8 0, .int .u8 0, .int .u8 0, .int .u8 0, .int .u8 0, .int .u8 0] := by kernel_rfl
theorem Tryd.info_byte : (Tryd.prog.info? 5).map (fun i => (i.zero, i.size, i.bytes)) = some (some (.int .u8 0), 1, 1) := by kernel_rfl

theorem copy_op {P : Program} {ops : Array Oper} {Q : Exit → Act → World → Prop} {i : Nat} {K : Act → World → Prop} {a : Act} {w : World} {o : Oper} (hi : ops[i]? = some o) (hgd : o.guard = none) (d s : Operand) (dT sT : TypeId)
    (hop : o.op = Op.call { callee := Callee.builtin Builtin.copy, args := #[d, s], argTypes := #[dT, sT] }) (elem : TypeId) (g of dLen dCap : Nat) (ad : Addr) (sLen sCap : Nat) (cur : Array Value) (t : TypeId) (cs : List Value)
    (hd : a.eval d = .slice (some ⟨g, of, none⟩) dLen dCap) (hs : a.eval s = .slice (some ad) sLen sCap) (hu : P.underlying dT = some (.slice elem)) (hz : (P.info? elem).map (·.size) = some 1)
    (hg : w.heap[g]? = some (.cells cur t (0, 0))) (hn : cs.length = Nat.min sLen dLen) (hsrc : ∀ j v, cs[j]? = some v → w.cell? (ad.add j) = some v) (hfit : of + cs.length ≤ cur.size) (h1 : ∀ v ∈ cs, v.oneCell' = true)
    (hK : K (a.put o.dst (goInt cs.length)) (w.setRow g (cur.toList.take of ++ cs ++ cur.toList.drop (of + cs.length)).toArray)) : wpOp P ops Q i K a w := by
  unfold wpOp
  simp only [hi]
  have hw : Region.wanted o (yielded ops a.tmps) = true := by simp [Region.wanted, hgd]
  rw [if_pos hw]
  left
  have hrun := run_copy_row P w dT sT o.type elem g of dLen dCap ad sLen sCap cur t cs hu hz hg hn hsrc hfit h1
  unfold Oper.wp
  simp [execOp, hop, resolve, invoke, builtin, hd, hs, hrun, Result.andThen]
  rw [List.append_assoc] at hK
  exact hK
theorem grown_setR (w : World) (g : Nat) (cs : Array Value) : w.grownBy (w.setRow g cs) (some g) :=
  ⟨rfl, rfl, rfl, by simp, fun k _ hne => setRow_other w g k cs (fun e => hne (by rw [e]))⟩

/-- What the loop of take keeps. -/
structure TI (Bb gd g cap Bs : Nat) (hv : Value) (w : World) (W : World) : Prop where
  bb : W.heap[Bb]? = some (.cells #[hv, .slice (some ⟨g, 0, none⟩) 6 cap, .bool false] 110 (0, 0))
  gr : ∃ cs : Array Value, 6 ≤ cs.size ∧ W.heap[g]? = some (.cells cs 5 (0, 0))
  b0 : W.heap[w.heap.size]? = some (.cells #[.pointer (some ⟨Bb, 0, none⟩)] 63 (0, 0))
  b1 : W.heap[w.heap.size + 1]? = some (.cells #[.int .i64 3] 3 (0, 0))
  b2 : W.heap[w.heap.size + 1 + 1]? = some (.cells #[.slice (some ⟨gd, 0, none⟩) 3 3] 47 (0, 0))
  dt : W.heap[gd]? = some (.cells #[.int .u8 1, .int .u8 2, .int .u8 3] 5 (0, 0))
  sb : W.heap[Bs]? = some (.cells #[.int .i64 3, .int .i64 6] 42 (0, 0))
  low : Below Bb w W
  big : w.heap.size ≤ W.heap.size
theorem TI.own {Bb gd g cap Bs B : Nat} {hv : Value} {w : World} (hBb : Bb < w.heap.size) (hB : w.heap.size ≤ B) : OwnFrom B (fun (_ : List { x : Pz // x ∈ pc 6 3 [] }) W => TI Bb gd g cap Bs hv w W) := fun _ X Y row hs hg hr => by
  obtain ⟨cs, h1, h2⟩ := hs.gr
  exact ⟨cells_keep hs.bb hg hr, ⟨cs, h1, cells_keep h2 hg hr⟩, cells_keep hs.b0 hg hr, cells_keep hs.b1 hg hr, cells_keep hs.b2 hg hr, cells_keep hs.dt hg hr, cells_keep hs.sb hg hr, hs.low.grown hg (by have := hs.big; omega) (fun k e => by have := (hr k e).1; omega), Nat.le_trans hs.big hg.size⟩
theorem TI.alloc {Bb gd g cap Bs : Nat} {hv : Value} {w W : World} (h : TI Bb gd g cap Bs hv w W) (hBb : Bb < w.heap.size) (o : Obj) : TI Bb gd g cap Bs hv w (W.alloc o) := by
  obtain ⟨cs, h1, h2⟩ := h.gr
  exact ⟨heapD h.bb o, ⟨cs, h1, heapD h2 o⟩, heapD h.b0 o, heapD h.b1 o, heapD h.b2 o, heapD h.dt o, heapD h.sb o, h.low.alloc (by have := h.big; omega) o, by have := h.big; simp; omega⟩

set_option maxRecDepth 100000 in
set_option maxHeartbeats 4000000 in
theorem take_none (Bb gd : Nat) (hv : Value) (w : World) (hB : w.heap[Bb]? = some (.cells #[hv, .slice none 0 0, .bool false] 110 (0, 0))) (hd : w.heap[gd]? = some (.cells #[.int .u8 1, .int .u8 2, .int .u8 3] 5 (0, 0))) (hne : gd ≠ Bb) (hl : Ls w hv []) (n : Nat) (hn : 9 ≤ n) :
    CallsIn Fence.wide n Tryd.prog 66 #[.pointer (some ⟨Bb, 0, none⟩), .int .i64 3, .slice (some ⟨gd, 0, none⟩) 3 3] w (fun e w' => (∃ v, e = .returned v) ∧ Below Bb w w' ∧ ∃ bv, w'.heap[Bb]? = some (.cells #[hv, bv, .bool false] 110 (0, 0))) := by
  have h1 : 1 ≤ n := by omega
  have HL : Hid (Ls w hv []) := hl
  have HBb : Hid (Bb < w.heap.size) := (Array.getElem?_eq_some_iff.1 hB).1
  obtain ⟨W0, hW0⟩ : ∃ W0, W0 = (((w.alloc (.cells #[.pointer (some ⟨Bb, 0, none⟩)] 63)).alloc (.cells #[.int .i64 3] 3)).alloc (.cells #[.slice (some ⟨gd, 0, none⟩) 3 3] 47)) := ⟨_, rfl⟩
  have HB0 : Hid (Below w.heap.size w W0) := by rw [hW0]; exact (((Below.refl _ _).alloc (Nat.le_refl _) _).alloc (by simp) _).alloc (by simp; omega) _
  have hbk : W0.heap[Bb]? = some (.cells #[hv, .slice none 0 0, .bool false] 110 (0, 0)) := (HB0.out.block _ HBb.out).trans hB
  refine callsIn_of_wp_marks Tryd.func66 rfl trivial ?_ rfl
  simp only [Tryd.ntmps66, List.size_toArray, List.length_cons, List.length_nil, Nat.reduceAdd, Nat.reduceSub, Array.replicate_succ, Array.replicate_zero, List.push_toArray, List.append_toArray, List.nil_append, List.cons_append]
  refine wpIn_wide.2 (Code.wp_mono (fun _ _ _ h => calmT_le h) ?_)
  rw [hW0] at hbk
  have q0 := cell_of_row _ _ 0 _ _ _ hbk
  have q1 := cell_of_row _ _ 1 _ _ _ hbk
  have q2 := cell_of_row _ _ 2 _ _ _ hbk
  simp only [List.getElem?_toArray, List.getElem?_cons_zero, List.getElem?_cons_succ] at q0 q1 q2
  clear hl hbk
  go_wp2_with fail
  rw [← hW0] at q0 q1 q2 ⊢
  have x0 : W0.heap[w.heap.size]? = some (.cells #[.pointer (some ⟨Bb, 0, none⟩)] 63 (0, 0)) := by rw [hW0]; exact heapD (heapD (heap_alloc_new' _ _) _) _
  have x1 : W0.heap[w.heap.size + 1]? = some (.cells #[.int .i64 3] 3 (0, 0)) := by
    have := heap_alloc_new' (w.alloc (.cells #[.pointer (some ⟨Bb, 0, none⟩)] 63)) (.cells #[.int .i64 3] 3)
    rw [World.size_alloc] at this; rw [hW0]; exact heapD this _
  have x2 : W0.heap[w.heap.size + 1 + 1]? = some (.cells #[.slice (some ⟨gd, 0, none⟩) 3 3] 47 (0, 0)) := by
    have := heap_alloc_new' ((w.alloc (.cells #[.pointer (some ⟨Bb, 0, none⟩)] 63)).alloc (.cells #[.int .i64 3] 3)) (.cells #[.slice (some ⟨gd, 0, none⟩) 3 3] 47)
    rw [World.size_alloc, World.size_alloc] at this; rw [hW0]; exact this
  have hsz : W0.heap.size = w.heap.size + 3 := by rw [hW0]; simp
  clear hW0
  have c0 := cell_of_one x0
  have c1 := cell_of_one x1
  have c2 := cell_of_one x2
  have hbk : W0.heap[Bb]? = some (.cells #[hv, .slice none 0 0, .bool false] 110 (0, 0)) := (HB0.out.block _ HBb.out).trans hB
  have hgd : W0.heap[gd]? = some (.cells #[.int .u8 1, .int .u8 2, .int .u8 3] 5 (0, 0)) := (HB0.out.block _ (Array.getElem?_eq_some_iff.1 hd).1).trans hd
  have f1 : W0.frozen? ⟨Bb, 1, none⟩ = false := frozen_of_row _ _ 1 _ _ hbk
  have HX : Hid (W0.heap[w.heap.size]? = some (.cells #[.pointer (some ⟨Bb, 0, none⟩)] 63 (0, 0)) ∧ W0.heap[w.heap.size + 1]? = some (.cells #[.int .i64 3] 3 (0, 0)) ∧ W0.heap[w.heap.size + 1 + 1]? = some (.cells #[.slice (some ⟨gd, 0, none⟩) 3 3] 47 (0, 0)) ∧ W0.heap.size = w.heap.size + 3 ∧ W0.heap[Bb]? = some (.cells #[hv, .slice none 0 0, .bool false] 110 (0, 0)) ∧ W0.heap[gd]? = some (.cells #[.int .u8 1, .int .u8 2, .int .u8 3] 5 (0, 0))) := ⟨x0, x1, x2, hsz, hbk, hgd⟩
  clear x0 x1 x2 hsz hbk hgd hB hd
  obtain ⟨i0, hi, hz0, hz1, hz2⟩ := info_parts Tryd.info_byte
  have HBL : Hid (Bb < W0.heap.size) := Nat.lt_of_lt_of_le HBb.out HB0.out.size
  have HINF : Hid ((Tryd.prog.info? 5).map (·.size) = some 1) := by unfold Hid; rw [hi]; simp [hz1]
  have hund : Tryd.prog.underlying 3 = some (.int .i64) := by kernel_rfl
  go_quiet (fail)
  go_wp2_with fail
  go_cut [31] from 25 (fun q wx => ∃ (g cap : Nat) (rest : Array Value), q = .slice (some ⟨g, 0, none⟩) 6 cap ∧ Hid (6 ≤ cap ∧ w.heap.size + 3 ≤ g ∧ wx.heap[g]? = some (.cells (#[.int .u8 0, .int .u8 0, .int .u8 0, .int .u8 0, .int .u8 0, .int .u8 0] ++ rest) 5 (0, 0)) ∧ wx.heap[Bb]? = some (.cells #[hv, .slice (some ⟨g, 0, none⟩) 6 cap, .bool false] 110 (0, 0)) ∧ (∀ j, j < W0.heap.size → j ≠ Bb → wx.heap[j]? = W0.heap[j]?) ∧ Below Bb w wx ∧ W0.heap.size ≤ wx.heap.size))
  case first =>
    go_region_law (first
      | (refine step_zeros rfl (.tmp 29) (.tmp 30) 47 3 rfl 5 i0 (.int .u8 0) Tryd.underlying47 hund hi hz0 6 (by decide) hz1 (by decide) (by rw [hz2]; decide) (by simp [Act.eval]) (by simp [Act.eval]) ?_
         intro cap w5 hcap hw5
         have HA : Hid (∀ j, j < W0.heap.size → w5.heap[j]? = W0.heap[j]?) := fun j hj => by rw [hw5]; exact Below.heap_alloc _ _ j hj
         have HN : Hid (w5.heap[W0.heap.size]? = some (.cells (#[.int .u8 0, .int .u8 0, .int .u8 0, .int .u8 0, .int .u8 0, .int .u8 0] ++ Builtin.zeroCells #[Value.int .u8 0] (cap - 6)) 5 (0, 0))) := by rw [hw5, ← zero6]; exact heap_alloc_new' _ _
         have HS5 : Hid (W0.heap.size < w5.heap.size) := by unfold Hid; rw [hw5]; simp
         have HB5 : Hid (Below w.heap.size w w5) := by rw [hw5]; exact (below_drewN HB0.out _).drew.alloc HB0.out.size _
         have HC5 : Hid (6 ≤ cap) := hcap
         have y1 : w5.cell? ⟨Bb, 1, none⟩ = some (.slice none 0 0) := cell_of_row _ _ 1 _ _ _ ((HA.out _ HBL.out).trans HX.out.2.2.2.2.1)
         have y2 : w5.frozen? ⟨Bb, 1, none⟩ = false := frozen_of_row _ _ 1 _ _ ((HA.out _ HBL.out).trans HX.out.2.2.2.2.1)
         have y3 : w5.cell? ⟨w.heap.size, 0, none⟩ = some (.pointer (some ⟨Bb, 0, none⟩)) := cell_of_one ((HA.out _ (by have := HX.out.2.2.2.1; omega)).trans HX.out.1)
         clear hw5 hcap))
    all_goals (
      go_wp2_with fail
      go_meet
      have h5 : (w5.setCell ⟨Bb, 1, none⟩ (.slice (some ⟨W0.heap.size, 0, none⟩) 6 cap)).heap[Bb]? = some (.cells #[hv, .slice (some ⟨W0.heap.size, 0, none⟩) 6 cap, .bool false] 110 (0, 0)) := row_setC ((HA.out _ HBL.out).trans HX.out.2.2.2.2.1)
      exact ⟨W0.heap.size, cap, _, rfl, HC5.out, by have := HX.out.2.2.2.1; omega, (Below.heap_setCell _ _ _ _ (by have := HBL.out; show W0.heap.size ≠ Bb; omega)).trans HN.out, h5, fun j hj hne => (Below.heap_setCell _ _ _ _ hne).trans (HA.out j hj), (HB5.out.mono (Nat.le_of_lt HBb.out)).setCell (Nat.le_refl _) _, by have := HS5.out; simp [World.setCell]; omega⟩)
  case rest =>
    obtain ⟨g, cap, rest, rfl, H5⟩ := hcut
    obtain ⟨W5, rfl⟩ : ∃ W5, W5 = wc := ⟨_, rfl⟩
    have KP : Hid (∀ j, j < W0.heap.size → j ≠ Bb → W5.heap[j]? = W0.heap[j]?) := H5.out.2.2.2.2.1
    have c0' : W5.cell? ⟨w.heap.size, 0, none⟩ = some (.pointer (some ⟨Bb, 0, none⟩)) := cell_of_one ((KP.out _ (by have := HX.out.2.2.2.1; omega) (by have := HBb.out; omega)).trans HX.out.1)
    have c1' : W5.cell? ⟨w.heap.size + 1, 0, none⟩ = some (.int .i64 3) := cell_of_one ((KP.out _ (by have := HX.out.2.2.2.1; omega) (by have := HBb.out; omega)).trans HX.out.2.1)
    have c2' : W5.cell? ⟨w.heap.size + 1 + 1, 0, none⟩ = some (.slice (some ⟨gd, 0, none⟩) 3 3) := cell_of_one ((KP.out _ (by have := HX.out.2.2.2.1; omega) (by have := HBb.out; omega)).trans HX.out.2.2.1)
    have q0' : W5.cell? ⟨Bb, 0, none⟩ = some hv := cell_of_row _ _ 0 _ _ _ H5.out.2.2.2.1
    clear q0 q1 q2 c0 c1 c2 f1
    have HLW : Hid (∀ W, Below W5.heap.size W5.drew W → Calls Tryd.prog 86 #[hv, .agg #[.int .i64 3, .int .i64 6]] W (WalkPost [] 3 6 W)) := fun W hb => walk_any 3 6 ⟨(by obtain ⟨a, c, h, _, h2⟩ := HL.out.shape; exact ⟨a, c, h, .inl rfl, h2⟩), by simp⟩ ⟨by simp, trivial⟩ ⟨by decide, by decide, by decide⟩
    have hpl : Calls Tryd.prog 85 #[.int .i64 3, .slice (some ⟨gd, 0, none⟩) 3 3] W5.drew fun e w' => e = .returned (.agg #[.int .i64 3, .int .i64 6]) ∧ Below W5.drew.heap.size W5.drew w' := places_any 3 (some ⟨gd, 0, none⟩) 3 3 W5.drew ⟨by decide, by decide⟩ (by decide)
    go_wp2_with fail
    go_cut [41] from 34 (fun q wx => ∃ (Bs Bl : Nat) (a2 : Option Addr) (cc2 : Nat), q = .func (.func 115) #[] #[.pointer (some ⟨Bs, 0, none⟩), .pointer (some ⟨Bl, 0, none⟩)] ∧ Hid (wx.heap[Bs]? = some (.cells #[.int .i64 3, .int .i64 6] 42 (0, 0)) ∧ wx.heap[Bl]? = some (.cells #[.slice a2 0 cc2] 38 (0, 0)) ∧ W5.heap.size ≤ Bs ∧ W5.heap.size ≤ Bl ∧ Below W5.heap.size W5 wx))
    case first =>
      go_region_with (first
        | (go_at_call 85
           refine hpl.mono ?_
           rintro e w1 ⟨rfl, hb1⟩
           have d0 : w1.cell? ⟨Bb, 0, none⟩ = some hv := (hb1.cell (p := ⟨Bb, 0, none⟩) (World.block_lt_of_cell? W5 ⟨Bb, 0, none⟩ q0')).trans q0'
           have d1 : w1.cell? ⟨w.heap.size, 0, none⟩ = some (.pointer (some ⟨Bb, 0, none⟩)) := (hb1.cell (p := ⟨w.heap.size, 0, none⟩) (World.block_lt_of_cell? W5 ⟨w.heap.size, 0, none⟩ c0')).trans c0'
           have HB1 : Hid (Below W5.heap.size W5.drew w1) := hb1
           clear hb1)
        | (go_at_call 86
           refine (HLW.out _ HB1.out).mono ?_
           rintro e w2 ⟨Bs, Bl, a2, cc2, rfl, hs1, hs2, hs3, hs4, hs5, hs6, hb2⟩
           have HW2 : Hid (w2.heap[Bs]? = some (.cells #[.int .i64 3, .int .i64 6] 42 (0, 0)) ∧ w2.heap[Bl]? = some (.cells #[.slice a2 0 cc2] 38 (0, 0)) ∧ W5.heap.size ≤ Bs ∧ W5.heap.size ≤ Bl ∧ Below W5.heap.size W5 w2) := ⟨hs1, by rw [show (wth [] (3, 6)).length = 0 from by decide] at hs2; exact hs2, Nat.le_trans HB1.out.size hs4, Nat.le_trans HB1.out.size hs5, (Below.drew (Below.refl W5.heap.size W5)).trans (HB1.out.trans (hb2.mono HB1.out.size))⟩
           clear hs1 hs2 hs3 hs4 hs5 hs6 hb2))
      all_goals (
        go_wp2_with fail
        go_meet
        exact ⟨Bs, Bl, a2, cc2, rfl, HW2⟩)
    case rest =>
      obtain ⟨Bs, Bl, a2, cc2, rfl, HW2⟩ := hcut
      obtain ⟨W6, rfl⟩ : ∃ W6, W6 = wc := ⟨_, rfl⟩
      clear HLW hpl c0' c1' c2' q0'
      go_wp2_with fail
      obtain ⟨hw1, hw2, hw3, hw4, hw5⟩ := HW2.out
      obtain ⟨hc6, hgw, hg0, hbb, hkp, hlowb, hsz5⟩ := H5.out
      obtain ⟨hx0, hx1, hx2, hsz0, hxb, hxg⟩ := HX.out
      have hBbw := HBb.out
      have hBsl : Bs < W6.heap.size := (Array.getElem?_eq_some_iff.1 hw1).1
      have hg5 : g < W5.heap.size := (Array.getElem?_eq_some_iff.1 hg0).1
      have hgd0 : gd < W0.heap.size := (Array.getElem?_eq_some_iff.1 hxg).1
      have hlow6 : w.heap.size ≤ W6.heap.size := by have := hw5.size; omega
      have hTI : TI Bb gd g cap Bs hv w W6 := ⟨(hw5.block _ (by omega)).trans hbb, ⟨_, by simp, (hw5.block _ hg5).trans hg0⟩, (hw5.block _ (by omega)).trans ((hkp _ (by omega) (by omega)).trans hx0), (hw5.block _ (by omega)).trans ((hkp _ (by omega) (by omega)).trans hx1), (hw5.block _ (by omega)).trans ((hkp _ (by omega) (by omega)).trans hx2), (hw5.block _ (by omega)).trans ((hkp _ hgd0 hne).trans hxg), hw1, hlowb.trans (hw5.mono (by omega)), hlow6⟩
      have HT6 : Hid (TI Bb gd g cap Bs hv w W6) := hTI
      clear hTI hx0 hx1 hx2 hxb hxg hg0 hbb hkp hlowb HW2 H5 HX KP HB0 HL
      refine (wpIn_wide (n := n)).1 ?_
      refine wpIn_rangeFunc_ownH rfl h1 (gf := 115) (lb := #[.pointer (some ⟨Bs, 0, none⟩), .pointer (some ⟨Bl, 0, none⟩)]) rfl trivial (enters_of Tryd.func115 (by kernel_rfl) rfl)
        (pieces_mem (n - 1) (by omega) Bs Bl w.heap.size a2 cc2 [] 3 6 (by simp) W6 hlow6 hw1 (cell_of_one hw2) ⟨.inl rfl, fun h => absurd rfl h⟩) Kps.trans (kps_b hlow6 hBsl) (Below.refl _ _) (fun _ => rfl)
        (fun _ W => TI Bb gd g cap Bs hv w W) (fun _ _ _ => False)
        (TI.own hBbw hlow6) (fun _ _ _ _ _ hs _ _ => hs)
        HT6.out
        (fun x a' W => ∃ Bx, W.heap[Bx]? = some (.cells #[.int .i64 x.1.1.1, .int .i64 x.1.1.2] 42 (0, 0)) ∧ a' = { tmps := #[.pointer (some ⟨Bb, 0, none⟩), .int .i64 3, .slice (some ⟨gd, 0, none⟩) 3 3, .pointer (some ⟨w.heap.size, 0, none⟩), .pointer (some ⟨w.heap.size + 1, 0, none⟩), .pointer (some ⟨w.heap.size + 1 + 1, 0, none⟩), .int .i64 6, .pointer (some ⟨Bx, 0, none⟩), .bool x.1.2, .pointer (some ⟨Bb, 0, none⟩), .pointer (some ⟨Bb, 0, none⟩), .pointer (some ⟨Bb, 2, none⟩), .bool false, .int .i64 3, .slice (some ⟨gd, 0, none⟩) 3 3, .int .i64 3, .int .i64 6, .pointer (some ⟨Bb, 0, none⟩), .pointer (some ⟨Bb, 0, none⟩), .pointer (some ⟨Bb, 1, none⟩), .slice none 0 0, .int .i64 0, .int .i64 6, .int .i64 6, .bool true, u25, u26, u27, u28, u29, u30, .slice (some ⟨g, 0, none⟩) 6 cap, u32, u33, u34, u35, u36, u37, u38, u39, u40, .func (.func 115) #[] #[.pointer (some ⟨Bs, 0, none⟩), .pointer (some ⟨Bl, 0, none⟩)], .agg #[.int .i64 x.1.1.1, .int .i64 x.1.1.2], .bool x.1.2, u44, u45, u46, u47, u48, u49, u50, u51, u52, u53, u54, u55, u56, u57, u58, u59, u60, u61], defers := [] })
        (fun x a' _ X Y row hs hg hr => by obtain ⟨Bx, h2, h3⟩ := hs; exact ⟨Bx, cells_keep h2 hg hr, h3⟩)
        ?assign ?body ?done ?stop
      case assign =>
        rintro l' pre x W K hGI hK
        gi_wp2
        exact hK _ _ ((KeepsOthers.alloc _ _).from _) ⟨(Below.refl _ W).alloc hGI.big _, Below.heap_alloc W _ _ (Array.getElem?_eq_some_iff.1 hGI.sb).1⟩ (hGI.alloc hBbw _) ⟨W.heap.size, heap_alloc_new' _ _, rfl⟩
      case body =>
        rintro l' pre ⟨x, hx⟩ a' W hl' hr hGI ⟨Bx, hxb, rfl⟩ hlt
        have hx2 : x = ((3, 6), false) := by
          rw [pc, if_pos (by decide)] at hx; simpa using hx
        subst hx2
        have HGI : Hid (TI Bb gd g cap Bs hv w W) := hGI
        have HXB : Hid (W.heap[Bx]? = some (.cells #[.int .i64 3, .int .i64 6] 42 (0, 0))) := hxb
        clear hGI hxb hr
        gi_wp2_with fail
        obtain ⟨cs, hcs, hgr⟩ := HGI.out.gr
        refine wpIn_region_round (fun V => V.cell? ⟨w.heap.size, 0, none⟩ = some (.pointer (some ⟨Bb, 0, none⟩)) ∧ V.cell? ⟨Bb, 1, none⟩ = some (.slice (some ⟨g, 0, none⟩) 6 cap) ∧ V.cell? ⟨Bx, 0, none⟩ = some (.int .i64 3) ∧ V.cell? ⟨Bx, 1, none⟩ = some (.int .i64 6) ∧ V.cell? ⟨w.heap.size + 1 + 1, 0, none⟩ = some (.slice (some ⟨gd, 0, none⟩) 3 3) ∧ V.cell? ⟨w.heap.size + 1, 0, none⟩ = some (.int .i64 3)) (by kernel_rfl) (by kernel_rfl) ?_ ?_
        · rintro ⟨a, w, h⟩
          exact h
        change wpAnyH _ _ _ _ _ _ _ _ W.drew
        have hS0 : W.drew.cell? ⟨w.heap.size, 0, none⟩ = some (.pointer (some ⟨Bb, 0, none⟩)) ∧ W.drew.cell? ⟨Bb, 1, none⟩ = some (.slice (some ⟨g, 0, none⟩) 6 cap) ∧ W.drew.cell? ⟨Bx, 0, none⟩ = some (.int .i64 3) ∧ W.drew.cell? ⟨Bx, 1, none⟩ = some (.int .i64 6) ∧ W.drew.cell? ⟨w.heap.size + 1 + 1, 0, none⟩ = some (.slice (some ⟨gd, 0, none⟩) 3 3) ∧ W.drew.cell? ⟨w.heap.size + 1, 0, none⟩ = some (.int .i64 3) :=
          ⟨cell_of_one HGI.out.b0, cell_of_row _ _ 1 _ _ _ HGI.out.bb, cell_of_row _ _ 0 _ _ _ HXB.out, cell_of_row _ _ 1 _ _ _ HXB.out, cell_of_one HGI.out.b2, cell_of_one HGI.out.b1⟩
        refine wpAnyH_take (i := 0) (oi := { dst := some 46, op := Op.load 63 (Operand.tmp 3), type := 63, pos := "buffer.go:81", after := #[], guard := none }) (v := .pointer (some ⟨Bb, 0, none⟩)) rfl (by kernel_rfl) (by kernel_rfl) (by kernel_rfl) (fun _ _ _ h => h) (.inl ⟨by kernel_rfl, fun V hV => ?_⟩) hS0 ?_
        · obtain ⟨s0, s1, s2, s3, s4, s5⟩ := hV
          go_simp
        simp only [Act.put, List.setIfInBounds_toArray, List.set_cons_zero, List.set_cons_succ]
        refine wpAnyH_take (i := 1) (oi := { dst := some 47, op := Op.nilCheck (Operand.tmp 46), type := 0, pos := "buffer.go:81", after := #[{ on := 0, ground := Ground.data }], guard := none }) (v := .pointer (some ⟨Bb, 0, none⟩)) rfl (by kernel_rfl) (by kernel_rfl) (by kernel_rfl) (fun _ _ _ h => h) (.inl ⟨by kernel_rfl, fun V hV => ?_⟩) hS0 ?_
        · obtain ⟨s0, s1, s2, s3, s4, s5⟩ := hV
          go_simp
        simp only [Act.put, List.setIfInBounds_toArray, List.set_cons_zero, List.set_cons_succ]
        refine wpAnyH_take (i := 2) (oi := { dst := some 48, op := Op.fieldAddr 110 (Operand.tmp 47) 1, type := 0, pos := "buffer.go:81", after := #[{ on := 1, ground := Ground.data }], guard := none }) (v := .pointer (some ⟨Bb, 1, none⟩)) rfl (by kernel_rfl) (by kernel_rfl) (by kernel_rfl) (fun _ _ _ h => h) (.inl ⟨by kernel_rfl, fun V hV => ?_⟩) hS0 ?_
        · obtain ⟨s0, s1, s2, s3, s4, s5⟩ := hV
          go_simp
        simp only [Act.put, List.setIfInBounds_toArray, List.set_cons_zero, List.set_cons_succ]
        refine wpAnyH_take (i := 3) (oi := { dst := some 49, op := Op.load 47 (Operand.tmp 48), type := 47, pos := "buffer.go:81", after := #[{ on := 2, ground := Ground.data }], guard := none }) (v := .slice (some ⟨g, 0, none⟩) 6 cap) rfl (by kernel_rfl) (by kernel_rfl) (by kernel_rfl) (fun _ _ _ h => h) (.inl ⟨by kernel_rfl, fun V hV => ?_⟩) hS0 ?_
        · obtain ⟨s0, s1, s2, s3, s4, s5⟩ := hV
          go_simp
        simp only [Act.put, List.setIfInBounds_toArray, List.set_cons_zero, List.set_cons_succ]
        refine wpAnyH_take (i := 4) (oi := { dst := some 50, op := Op.fieldAddr 42 (Operand.tmp 7) 0, type := 0, pos := "buffer.go:81", after := #[], guard := none }) (v := .pointer (some ⟨Bx, 0, none⟩)) rfl (by kernel_rfl) (by kernel_rfl) (by kernel_rfl) (fun _ _ _ h => h) (.inl ⟨by kernel_rfl, fun V hV => ?_⟩) hS0 ?_
        · obtain ⟨s0, s1, s2, s3, s4, s5⟩ := hV
          go_simp
        simp only [Act.put, List.setIfInBounds_toArray, List.set_cons_zero, List.set_cons_succ]
        refine wpAnyH_take (i := 5) (oi := { dst := some 51, op := Op.load 3 (Operand.tmp 50), type := 3, pos := "buffer.go:81", after := #[{ on := 4, ground := Ground.data }], guard := none }) (v := .int .i64 3) rfl (by kernel_rfl) (by kernel_rfl) (by kernel_rfl) (fun _ _ _ h => h) (.inl ⟨by kernel_rfl, fun V hV => ?_⟩) hS0 ?_
        · obtain ⟨s0, s1, s2, s3, s4, s5⟩ := hV
          go_simp
        simp only [Act.put, List.setIfInBounds_toArray, List.set_cons_zero, List.set_cons_succ]
        refine wpAnyH_take (i := 6) (oi := { dst := some 52, op := Op.fieldAddr 42 (Operand.tmp 7) 1, type := 0, pos := "buffer.go:81", after := #[], guard := none }) (v := .pointer (some ⟨Bx, 1, none⟩)) rfl (by kernel_rfl) (by kernel_rfl) (by kernel_rfl) (fun _ _ _ h => h) (.inl ⟨by kernel_rfl, fun V hV => ?_⟩) hS0 ?_
        · obtain ⟨s0, s1, s2, s3, s4, s5⟩ := hV
          go_simp
        simp only [Act.put, List.setIfInBounds_toArray, List.set_cons_zero, List.set_cons_succ]
        refine wpAnyH_take (i := 7) (oi := { dst := some 53, op := Op.load 3 (Operand.tmp 52), type := 3, pos := "buffer.go:81", after := #[{ on := 6, ground := Ground.data }], guard := none }) (v := .int .i64 6) rfl (by kernel_rfl) (by kernel_rfl) (by kernel_rfl) (fun _ _ _ h => h) (.inl ⟨by kernel_rfl, fun V hV => ?_⟩) hS0 ?_
        · obtain ⟨s0, s1, s2, s3, s4, s5⟩ := hV
          go_simp
        simp only [Act.put, List.setIfInBounds_toArray, List.set_cons_zero, List.set_cons_succ]
        refine wpAnyH_take (i := 8) (oi := { dst := some 54, op := Op.slice 47 (Operand.tmp 49) (some (Operand.tmp 51)) (some (Operand.tmp 53)) none, type := 47, pos := "buffer.go:81", after := #[{ on := 3, ground := Ground.data }, { on := 5, ground := Ground.data }, { on := 7, ground := Ground.data }], guard := none }) (v := if cap = 3 then .slice (some ⟨g, 0, none⟩) 3 (cap - 3) else .slice (some ⟨g, 3, none⟩) 3 (cap - 3)) rfl (by kernel_rfl) (by kernel_rfl) (by kernel_rfl) (fun _ _ _ h => h) (.inl ⟨by kernel_rfl, fun V hV => ?_⟩) hS0 ?_
        · obtain ⟨s0, s1, s2, s3, s4, s5⟩ := hV
          go_simp
          rw [if_pos (by omega), if_neg (by omega), if_neg (by omega)]
        rw [if_neg (show ¬ cap = 3 from by omega)]
        simp only [Act.put, List.setIfInBounds_toArray, List.set_cons_zero, List.set_cons_succ]
        refine wpAnyH_take (i := 9) (oi := { dst := some 55, op := Op.load 47 (Operand.tmp 5), type := 47, pos := "buffer.go:81", after := #[], guard := none }) (v := .slice (some ⟨gd, 0, none⟩) 3 3) rfl (by kernel_rfl) (by kernel_rfl) (by kernel_rfl) (fun _ _ _ h => h) (.inl ⟨by kernel_rfl, fun V hV => ?_⟩) hS0 ?_
        · obtain ⟨s0, s1, s2, s3, s4, s5⟩ := hV
          go_simp
        simp only [Act.put, List.setIfInBounds_toArray, List.set_cons_zero, List.set_cons_succ]
        refine wpAnyH_take (i := 10) (oi := { dst := some 56, op := Op.fieldAddr 42 (Operand.tmp 7) 0, type := 0, pos := "buffer.go:81", after := #[], guard := none }) (v := .pointer (some ⟨Bx, 0, none⟩)) rfl (by kernel_rfl) (by kernel_rfl) (by kernel_rfl) (fun _ _ _ h => h) (.inl ⟨by kernel_rfl, fun V hV => ?_⟩) hS0 ?_
        · obtain ⟨s0, s1, s2, s3, s4, s5⟩ := hV
          go_simp
        simp only [Act.put, List.setIfInBounds_toArray, List.set_cons_zero, List.set_cons_succ]
        refine wpAnyH_take (i := 11) (oi := { dst := some 57, op := Op.load 3 (Operand.tmp 56), type := 3, pos := "buffer.go:81", after := #[{ on := 10, ground := Ground.data }], guard := none }) (v := .int .i64 3) rfl (by kernel_rfl) (by kernel_rfl) (by kernel_rfl) (fun _ _ _ h => h) (.inl ⟨by kernel_rfl, fun V hV => ?_⟩) hS0 ?_
        · obtain ⟨s0, s1, s2, s3, s4, s5⟩ := hV
          go_simp
        simp only [Act.put, List.setIfInBounds_toArray, List.set_cons_zero, List.set_cons_succ]
        refine wpAnyH_take (i := 12) (oi := { dst := some 58, op := Op.load 3 (Operand.tmp 4), type := 3, pos := "buffer.go:81", after := #[], guard := none }) (v := .int .i64 3) rfl (by kernel_rfl) (by kernel_rfl) (by kernel_rfl) (fun _ _ _ h => h) (.inl ⟨by kernel_rfl, fun V hV => ?_⟩) hS0 ?_
        · obtain ⟨s0, s1, s2, s3, s4, s5⟩ := hV
          go_simp
        simp only [Act.put, List.setIfInBounds_toArray, List.set_cons_zero, List.set_cons_succ]
        refine wpAnyH_take (i := 13) (oi := { dst := some 59, op := Op.binOp BinOp.sub 3 (Operand.tmp 57) (Operand.tmp 58) 3, type := 3, pos := "buffer.go:81", after := #[{ on := 11, ground := Ground.data }, { on := 12, ground := Ground.data }], guard := none }) (v := .int .i64 0) rfl (by kernel_rfl) (by kernel_rfl) (by kernel_rfl) (fun _ _ _ h => h) (.inl ⟨by kernel_rfl, fun V hV => ?_⟩) hS0 ?_
        · obtain ⟨s0, s1, s2, s3, s4, s5⟩ := hV
          go_simp
          decide
        simp only [Act.put, List.setIfInBounds_toArray, List.set_cons_zero, List.set_cons_succ]
        refine wpAnyH_take (i := 14) (oi := { dst := some 60, op := Op.slice 47 (Operand.tmp 55) (some (Operand.tmp 59)) none none, type := 47, pos := "buffer.go:81", after := #[{ on := 9, ground := Ground.data }, { on := 13, ground := Ground.data }], guard := none }) (v := .slice (some ⟨gd, 0, none⟩) 3 3) rfl (by kernel_rfl) (by kernel_rfl) (by kernel_rfl) (fun _ _ _ h => h) (.inl ⟨by kernel_rfl, fun V hV => ?_⟩) hS0 ?_
        · obtain ⟨s0, s1, s2, s3, s4, s5⟩ := hV
          go_simp
        simp only [Act.put, List.setIfInBounds_toArray, List.set_cons_zero, List.set_cons_succ]
        refine wpAnyH_all (rs := [15]) (by kernel_rfl) (by simp) ?_
        intro i hi
        obtain rfl : i = 15 := by simpa using hi
        have hgne : ∀ b, b ≠ g → ∀ (cs' : Array Value) (j : Nat), (W.drew.setRow g cs').cell? ⟨b, j, none⟩ = W.drew.cell? ⟨b, j, none⟩ := fun b hb cs' j => cell_setRow_other _ _ _ _ hb
        have hinf : (Tryd.prog.info? 5).map (·.size) = some 1 := HINF.out
        refine copy_op (i := 15) (o := { dst := some 61, op := Op.call { callee := Callee.builtin Builtin.copy, args := #[Operand.tmp 54, Operand.tmp 60], argTypes := #[47, 47] }, type := 3, pos := "buffer.go:81", after := #[{ on := 8, ground := Ground.data }, { on := 14, ground := Ground.data }], guard := none }) rfl rfl (.tmp 54) (.tmp 60) 47 47 rfl 5 g 3 3 (cap - 3) ⟨gd, 0, none⟩ 3 3 cs 5 [.int .u8 1, .int .u8 2, .int .u8 3] (by simp [Act.eval]) (by simp [Act.eval]) Tryd.underlying47 hinf hgr (by decide) ?_ (by simp; omega) (by simp [Value.oneCell']) ?_
        · intro j v hj
          have hd6 : W.drew.heap[gd]? = some (.cells #[.int .u8 1, .int .u8 2, .int .u8 3] 5 (0, 0)) := HGI.out.dt
          match j, hj with
          | 0, hj => simp at hj; subst hj; exact cell_of_row _ _ 0 _ _ _ hd6
          | 1, hj => simp at hj; subst hj; exact cell_of_row _ _ 1 _ _ _ hd6
          | 2, hj => simp at hj; subst hj; exact cell_of_row _ _ 2 _ _ _ hd6
        · have hsz' : 6 ≤ (List.take 3 cs.toList ++ [Value.int .u8 1, Value.int .u8 2, Value.int .u8 3] ++ List.drop (3 + [Value.int .u8 1, Value.int .u8 2, Value.int .u8 3].length) cs.toList).toArray.size := by simp; omega
          generalize (List.take 3 cs.toList ++ [Value.int .u8 1, Value.int .u8 2, Value.int .u8 3] ++ List.drop (3 + [Value.int .u8 1, Value.int .u8 2, Value.int .u8 3].length) cs.toList).toArray = cs' at hsz' ⊢
          have hBg : Bb ≠ g := by omega
          have hXg : Bx ≠ g := by
            intro e; subst e
            have := HXB.out; rw [hgr] at this; simp at this
          have hgg : W.grownBy (W.drew.setRow g cs') (some g) := ⟨rfl, rfl, rfl, by simp, fun k _ hk => setRow_other W.drew g k cs' (fun e => hk (by rw [e]))⟩
          obtain ⟨s0, s1, s2, s3, s4, s5⟩ := hS0
          refine ⟨⟨(hgne _ (by omega) _ _).trans s0, (hgne _ hBg _ _).trans s1, (hgne _ hXg _ _).trans s2, (hgne _ hXg _ _).trans s3, (hgne _ (by omega) _ _).trans s4, (hgne _ (by omega) _ _).trans s5⟩, wpAnyH_done (by kernel_rfl) ?_ _⟩
          have hkeep : ∀ b, b ≠ g → (W.drew.setRow g cs').heap[b]? = W.heap[b]? := fun b hb => setRow_other W.drew g b cs' hb
          have hBsg : Bs ≠ g := by
            intro e; subst e
            have := HGI.out.sb; rw [hgr] at this; simp at this
          have hgdg : gd ≠ g := by omega
          have hgs : g < W.heap.size := (Array.getElem?_eq_some_iff.1 hgr).1
          have hT2 : TI Bb gd g cap Bs hv w (W.drew.setRow g cs') := ⟨(hkeep _ hBg).trans HGI.out.bb, ⟨cs', hsz', setRow_heap W.drew g cs cs' _ _ hgr⟩, (hkeep _ (by omega)).trans HGI.out.b0, (hkeep _ (by omega)).trans HGI.out.b1, (hkeep _ (by omega)).trans HGI.out.b2, (hkeep _ hgdg).trans HGI.out.dt, (hkeep _ hBsg).trans HGI.out.sb, HGI.out.low.grown hgg (by have := HGI.out.big; omega) (fun k e => by cases e; omega), by have := HGI.out.big; simpa using this⟩
          have hkf : KeepsOthers W (W.drew.setRow g cs') := KeepsOthers.of_grownBy hgg fun j o ej hj => by
            cases ej; rw [hgr] at hj; cases hj; rfl
          exact ⟨hkf.from _, ⟨(Below.refl _ W).grown hgg HGI.out.big (fun k e => by cases e; omega), hkeep _ hBsg⟩, hT2⟩
      case done =>
        rintro D ys W hD hS hGI hK
        have HB3 : Hid (Below Bb w (W.putObj D (.deferred none))) := hGI.low.trans (belowK_b (w := w) (by omega) W D _ _ (by omega) hK rfl rfl)
        have HB4 : Hid ((W.putObj D (.deferred none)).heap[Bb]? = some (.cells #[hv, .slice (some ⟨g, 0, none⟩) 6 cap, .bool false] 110 (0, 0))) := (World.putObj_heap_other (by omega)).trans hGI.bb
        clear hGI
        go_wp2
        change bodyPostM Fence.wide n Tryd.prog _ _ Exit.normal _ _
        refine ⟨by simp, .inl ⟨_, _, rfl, run_takeDeferred hK, ?_⟩⟩
        exact ⟨_, results_none (fn := Tryd.f66) rfl _ _ _, ⟨_, rfl⟩, HB3.out, _, HB4.out⟩
      case stop =>
        rintro D c' pre W _ _ h _
        exact h.elim

end Go.Proofs.YtgmbpagbiakciadDoor.C
