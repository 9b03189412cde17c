import Derived.Test.YtllhbhogfffedaaGreatDoorJnApp
import Derived.Test.YtllhbhogfffedaaGreatDoorRcFme
namespace Go.Proofs.YtllhbhogfffedaaGreatDoor
open Go.RowKit
set_option linter.unusedVariables false
set_option linter.unusedSimpArgs false

theorem Ap1.weak {w W0 w' : World} {x n : Nat} {s : ByteArray} {bs : List Value} (h : Ap1 W0 x s n bs w') (hg : w.grownBy W0 none) (hx : x < w.heap.size) : Ap1 w x s n bs w' := by
  obtain ⟨F, cp, ab, cb, h1, h2, h3, h4, h5⟩ := h.ex
  refine ⟨⟨F, cp, ab, cb, h1, Nat.le_trans hg.size h2, h3, h4, ?_⟩, jgrown_trans (jgrown_none hg) h.gr, fun j hj => (h.oth j hj).trans (World.cell?_of_block (a := ⟨x, j, none⟩) (hg.block x hx (by simp)))⟩
  refine ⟨h5.1, ?_⟩
  rcases h5.2 with h6 | ⟨g, cap, cur, e, hb, r⟩
  · exact .inl h6
  · exact .inr ⟨g, cap, cur, e, Nat.le_trans hg.size hb, r⟩

set_option maxHeartbeats 4000000 in
set_option maxRecDepth 20000 in
/-- Disk.Append of a disk without files. -/
theorem append_none (w : World) (d x : Nat) (s : ByteArray) (gb n c base : Nat) (bs : List Value)
    (hd : w.cell? ⟨d, 0, none⟩ = some (.pointer (some ⟨x, 0, none⟩))) (hf : w.cell? ⟨x, 0, none⟩ = some (.slice none 0 0)) (hr : w.cell? ⟨x, 1, none⟩ = some (.int .i64 1000)) (ha : w.cell? ⟨x, 2, none⟩ = some (.bool false)) (hw : w.cell? ⟨x, 5, none⟩ = some (.bool false)) (hfz : w.frozen? ⟨x, 0, none⟩ = false)
    (hrow : w.ownsRow base 5 1 (.slice (some ⟨gb, 0, none⟩) n c) n bs) (hone : ∀ u ∈ bs, u.oneCell' = true) (hn : n ≤ 1000) (hn0 : 0 < n) (hgx : gb ≠ x) (hdx : d ≠ x) :
    Calls Tryz.prog 25 #[.pointer (some ⟨d, 0, none⟩), .string s, .slice (some ⟨gb, 0, none⟩) n c] w fun e w' => e = .returned .nilIface ∧ Ap1 w x s n bs w' := by
  have hxl := World.block_lt_of_cell? w ⟨x, 0, none⟩ hf
  have hdl := World.block_lt_of_cell? w ⟨d, 0, none⟩ hd
  simp only at hxl hdl
  obtain ⟨W, hW⟩ : ∃ W, ((w.alloc (.cells #[.pointer (some ⟨d, 0, none⟩)] 46)).alloc (.cells #[.string s] 9)).alloc (.cells #[.slice (some ⟨gb, 0, none⟩) n c] 35) = W := ⟨_, rfl⟩
  have hg : w.grownBy W none := by rw [← hW]; exact jgrown_trans (jgrown_trans (jgrown_alloc _ _ none) (jgrown_alloc _ _ none)) (jgrown_alloc _ _ none)
  have c0 : W.cell? ⟨w.heap.size, 0, none⟩ = some (.pointer (some ⟨d, 0, none⟩)) := by rw [← hW]; simp [go_sem]
  have c1 : W.cell? ⟨w.heap.size + 1, 0, none⟩ = some (.string s) := by rw [← hW]; simp [go_sem]
  have c2 : W.cell? ⟨w.heap.size + 1 + 1, 0, none⟩ = some (.slice (some ⟨gb, 0, none⟩) n c) := by rw [← hW]; simp [go_sem]
  have d0 := jcell_grown hd hg (by simp)
  have d1 := jcell_grown hf hg (by simp)
  have d2 := jcell_grown hr hg (by simp)
  have d3 := jcell_grown ha hg (by simp)
  have d4 := jcell_grown hw hg (by simp)
  have dz : W.frozen? ⟨x, 0, none⟩ = false := (World.frozen?_of_block (a := ⟨x, 0, none⟩) (hg.block x hxl (by simp))).trans hfz
  have hrw : W.ownsRow base 5 1 (.slice (some ⟨gb, 0, none⟩) n c) n bs := World.ownsRow.kept hrow hg (.inr (by simp [Value.ownBlock]))
  have HU := used_none W.drew x d1
  have HAp := app1_none W.drew w.heap.size (w.heap.size + 1) (w.heap.size + 1 + 1) d x s gb n c base bs c0 c1 c2 d0 d1 dz hrw hone hn hn0 hgx (by omega) (by omega) (by omega) hdx
  have HAct := act_app W.drew x (.pointer (some ⟨w.heap.size, 0, none⟩)) (.pointer (some ⟨w.heap.size + 1, 0, none⟩)) (.pointer (some ⟨w.heap.size + 1 + 1, 0, none⟩)) _ d3 HAp
  have HG : Hid (w.grownBy W.drew none) := jgrown_trans hg (jgrown_drew W none)
  have hn' : ¬ (1000 : Int) < (n : Int) := by omega
  have hwk : IntKind.i64.wrap 1000 = 1000 := by decide
  clear hg hrw HAp hrow hone hd hf hr ha hw hfz dz
  go_enter Tryz.func25, Tryz.ntmps25
  go_upto_region 1 with fail
  try rw [hW]
  clear hW
  go_wp2_with fail
  go_region_held3 (fun V => V.cell? ⟨w.heap.size, 0, none⟩ = some (.pointer (some ⟨d, 0, none⟩)) ∧ V.cell? ⟨w.heap.size + 1 + 1, 0, none⟩ = some (.slice (some ⟨gb, 0, none⟩) n c) ∧ V.cell? ⟨d, 0, none⟩ = some (.pointer (some ⟨x, 0, none⟩)) ∧ V.cell? ⟨x, 1, none⟩ = some (.int .i64 1000))
    (first | (exact ⟨c0, c2, d0, d2⟩))
    (first
      | (go_at_call 56
         refine HU.mono ?_
         rintro e w2 ⟨rfl, rfl⟩))
  go_wp2_with (go_at_call 57; refine HAct.mono ?_; rintro e w3 ⟨rfl, hq3⟩)
  go_ret
  exact ⟨rfl, hq3.weak HG.out hxl⟩
end Go.Proofs.YtllhbhogfffedaaGreatDoor

namespace Go.Proofs.YtllhbhogfffedaaGreatDoor
open Go.RowKit
set_option linter.unusedVariables false
set_option linter.unusedSimpArgs false

set_option maxRecDepth 20000 in
theorem sync_one (w : World) (d x F cp : Nat) (s : ByteArray) (a : Option Addr) (n c : Nat) (k : Int) (hds : d < w.heap.size) (hxs : x < w.heap.size) (hFs : F < w.heap.size) (h : Bx1 w x F cp s a n c k) (hd : w.cell? ⟨d, 0, none⟩ = some (.pointer (some ⟨x, 0, none⟩))) (hw : w.cell? ⟨x, 5, none⟩ = some (.bool false)) (h2 : w.cell? ⟨x, 2, none⟩ = some (.bool false)) (hz : w.frozen? ⟨F, 2, none⟩ = false) :
    Calls Tryz.prog 26 #[.pointer (some ⟨d, 0, none⟩), .string s] w fun e w' => e = .returned .nilIface ∧ w' = (((w.setCell ⟨F, 2, none⟩ (.int .i64 n)).alloc (.cells #[.pointer (some ⟨d, 0, none⟩)] 46)).alloc (.cells #[.int .i64 0] 3)).drew := by
  have HB1 : Hid (Below w.heap.size w (w.alloc (.cells #[.pointer (some ⟨d, 0, none⟩)] 46))) := (Below.refl _ _).alloc (Nat.le_refl _) _
  have HB2 : Hid (Below w.heap.size w ((w.alloc (.cells #[.pointer (some ⟨d, 0, none⟩)] 46)).alloc (.cells #[.int .i64 0] 3))) := HB1.out.alloc (by simp) _
  have HX : Hid (∀ W, Below w.heap.size w W → Bx1 W x F cp s a n c k) := fun W hb => ⟨(hb.cell (p := ⟨x, 0, none⟩) hxs).trans h.1, (hb.cell (p := ⟨F, 0, none⟩) hFs).trans h.2.1, (hb.cell (p := ⟨F, 1, none⟩) hFs).trans h.2.2.1, (hb.cell (p := ⟨F, 2, none⟩) hFs).trans h.2.2.2⟩
  have HF := find_one _ x F cp s a n c k (HX.out _ HB1.out)
  have HA := act_syn _ x (.pointer (some ⟨w.heap.size, 0, none⟩)) (.pointer (some ⟨w.heap.size + 1, 0, none⟩)) _ ((HB2.out.cell (p := ⟨x, 2, none⟩) hxs).trans h2) (syn1_one _ w.heap.size (w.heap.size + 1) d x F cp s a n c k (HX.out _ HB2.out) (by simp [go_sem]) (by simp [go_sem]) ((HB2.out.cell (p := ⟨d, 0, none⟩) hds).trans hd) ((HB2.out.frozen (p := ⟨F, 2, none⟩) hFs).trans hz))
  go_enter Tryz.func26, Tryz.ntmps26
  go_wp2_with (first
    | (go_at_call 59; refine HF.mono ?_; rintro e w3 ⟨rfl, rfl⟩)
    | (go_at_call 57; refine HA.mono ?_; rintro e w3 ⟨rfl, rfl⟩))
  go_ret
  exact ⟨rfl, rfl⟩
end Go.Proofs.YtllhbhogfffedaaGreatDoor

namespace Go.Proofs.YtllhbhogfffedaaGreatDoor
open Go.RowKit
set_option linter.unusedVariables false
set_option linter.unusedSimpArgs false

/-- A journal's cells may be written. -/
def JnZ (w : World) (j : Nat) : Prop := w.frozen? ⟨j, 1, none⟩ = false ∧ w.frozen? ⟨j, 2, none⟩ = false
/-- The name of a journal's file. -/
abbrev jnm : ByteArray := ⟨#[106, 111, 117, 114, 110, 97, 108]⟩

/-- What the first Write leaves: N bytes are in the file, none of them safe. -/
structure Wr1 (w : World) (j d x N : Nat) (bs : List Value) (w' : World) : Prop where
  ex : ∃ F cp ab cb, Bx1 w' x F cp jnm ab N cb 0 ∧ w.heap.size ≤ F ∧ F < w'.heap.size ∧ w'.frozen? ⟨F, 2, none⟩ = false ∧ w'.ownsRow w.heap.size 5 1 (.slice ab N cb) N bs
  jn : Jn w' j d N N
  jz : JnZ w' j
  oth : ∀ i, i ≠ 0 → w'.cell? ⟨x, i, none⟩ = w.cell? ⟨x, i, none⟩
  size : w.heap.size ≤ w'.heap.size
  sys : w'.os = w.os ∧ w'.tape = w.tape ∧ w'.output = w.output
  blk : ∀ k, k < w.heap.size → k ≠ x → k ≠ j → w'.heap[k]? = w.heap[k]?

set_option maxHeartbeats 4000000 in
set_option maxRecDepth 20000 in
theorem write_one (w : World) (j d x : Nat) (aD : Addr) (l : List Rc) (a : Option Addr) (n c N : Nat) (hT : Tab6 w) (hl : l.length = n) (hn : n ≤ 1048576) (hn0 : 0 < n) (ha : RLin w a l) (hd' : ∀ r ∈ l, Bytey r.data) (hm : ∀ r ∈ l, mayB6 r = true) (hN : (l.flatMap frB).length = N) (hN0 : 0 < N) (hN1 : N ≤ 1000)
    (hj : Jn w j d 0 0) (hjz : JnZ w j) (hjx : j ≠ x) (hdx : d ≠ x) (hj0 : 5 ≤ j) (hx0 : 5 ≤ x) (h2s : 0 < w.heap.size)
    (hd : w.cell? ⟨d, 0, none⟩ = some (.pointer (some ⟨x, 0, none⟩))) (hf : w.cell? ⟨x, 0, none⟩ = some (.slice none 0 0)) (hr : w.cell? ⟨x, 1, none⟩ = some (.int .i64 1000)) (har : w.cell? ⟨x, 2, none⟩ = some (.bool false)) (hw : w.cell? ⟨x, 5, none⟩ = some (.bool false)) (hfz : w.frozen? ⟨x, 0, none⟩ = false)
    (hD : w.cell? ⟨0, 0, none⟩ = some (.iface 218 (.pointer (some aD)))) :
    Calls Tryz.prog 17 #[.pointer (some ⟨j, 0, none⟩), .slice a n c, .bool false] w fun e w' => e = .returned .nilIface ∧ Wr1 w j d x N ((l.flatMap frB).map (Value.int .u8)) w' := by
  have HF := frames_ok w j d 0 0 l a n c hT hl hn ha hd' hm hj
  rw [hN] at HF
  have HB1 : Hid (∀ u ∈ (l.flatMap frB).map (Value.int .u8), u.oneCell' = true) := fun u hu => by obtain ⟨z, _, rfl⟩ := List.mem_map.mp hu; rfl
  generalize (l.flatMap frB).map (Value.int .u8) = bs at *
  have hxl : x < w.heap.size := World.block_lt_of_cell? w ⟨x, 0, none⟩ hf
  have hdl : d < w.heap.size := World.block_lt_of_cell? w ⟨d, 0, none⟩ hd
  obtain ⟨j0, j1, j2, j3⟩ := hj
  have hjl : j < w.heap.size := World.block_lt_of_cell? w ⟨j, 0, none⟩ j0
  have hn' : (0 : Int) < (n : Int) := by omega
  clear hT hl ha hd' hm hN
  go_enter Tryz.func17, Tryz.ntmps17
  go_wp2_with fail
  refine HF.mono ?_
  rintro e w2 ⟨v2, rfl, ho2, hb2⟩
  obtain ⟨gb, cb2, hv2, hg1, hg2⟩ := jown_pos ho2 hN0
  subst hv2
  have p0 := (hb2.cell (p := ⟨j, 0, none⟩) hjl).trans j0
  have p1 := (hb2.cell (p := ⟨j, 1, none⟩) hjl).trans j1
  have p2 := (hb2.cell (p := ⟨j, 2, none⟩) hjl).trans j2
  have p3 := (hb2.cell (p := ⟨j, 3, none⟩) hjl).trans j3
  have HAp := append_none w2 d x jnm gb N cb2 w.heap.size bs ((hb2.cell (p := ⟨d, 0, none⟩) hdl).trans hd) ((hb2.cell (p := ⟨x, 0, none⟩) hxl).trans hf) ((hb2.cell (p := ⟨x, 1, none⟩) hxl).trans hr) ((hb2.cell (p := ⟨x, 2, none⟩) hxl).trans har) ((hb2.cell (p := ⟨x, 5, none⟩) hxl).trans hw) ((hb2.frozen (p := ⟨x, 0, none⟩) hxl).trans hfz) ho2 HB1.out hN1 hN0 (by omega) hdx
  have HS2 : Hid (Below w.heap.size w w2 ∧ w2.frozen? ⟨j, 1, none⟩ = false ∧ w2.frozen? ⟨j, 2, none⟩ = false ∧ w2.cell? ⟨0, 0, none⟩ = some (.iface 218 (.pointer (some aD)))) := ⟨hb2, (hb2.frozen (p := ⟨j, 1, none⟩) hjl).trans hjz.1, (hb2.frozen (p := ⟨j, 2, none⟩) hjl).trans hjz.2, (hb2.cell (p := ⟨0, 0, none⟩) h2s).trans hD⟩
  clear HF ho2 hb2 j0 j1 j2 j3 hd hf hr har hw hfz hD hjz
  go_wp2_with fail
  refine HAp.mono ?_
  rintro e w3 ⟨rfl, hA3⟩
  have r0 := jcell_grown p0 hA3.gr (by simp [hjx])
  have r1 := jcell_grown p1 hA3.gr (by simp [hjx])
  have r2 := jcell_grown p2 hA3.gr (by simp [hjx])
  have r3 := jcell_grown p3 hA3.gr (by simp [hjx])
  have hjb : w3.heap[j]? = w2.heap[j]? := hA3.gr.block j (World.block_lt_of_cell? w2 ⟨j, 0, none⟩ p0) (by simp [hjx])
  have z1 : w3.frozen? ⟨j, 1, none⟩ = false := (World.frozen?_of_block (a := ⟨j, 1, none⟩) hjb).trans HS2.out.2.1
  have z2 : w3.frozen? ⟨j, 2, none⟩ = false := (World.frozen?_of_block (a := ⟨j, 2, none⟩) hjb).trans HS2.out.2.2.1
  have HHd := heard_nil w3 j aD (jcell_grown HS2.out.2.2.2 hA3.gr (by simp; omega))
  have HA3 : Hid (Ap1 w2 x jnm N bs w3) := hA3
  clear HAp hA3 hjb p0 p1 p2 p3
  go_wp2_with fail
  refine HHd.mono ?_
  rintro e w4 ⟨rfl, rfl⟩
  clear HHd
  have hwN : IntKind.i64.wrap (N : Int) = (N : Int) := by rw [IntKind.wrap_i64]; omega
  have hwN0 : IntKind.i64.wrap (0 + (N : Int)) = (N : Int) := by rw [IntKind.wrap_i64]; omega
  have t2 : (w4.setCell ⟨j, 1, none⟩ (.int .i64 N)).cell? ⟨j, 2, none⟩ = some (.int .i64 0) := jset_other r2 (.inr (by omega))
  have tz : (w4.setCell ⟨j, 1, none⟩ (.int .i64 N)).frozen? ⟨j, 2, none⟩ = false := by rw [World.frozen?_setCell]; exact z2
  go_wp2
  go_ret
  refine ⟨rfl, ?_⟩
  obtain ⟨F, cpF, ab, cb, h1, h2, h3, h4, h5⟩ := HA3.out.ex
  have hb := HS2.out.1
  have hs2 : w.heap.size ≤ w2.heap.size := hb.size
  have hFj : F ≠ j := by omega
  have g1 := jgrown_set w4 j 1 (.int .i64 N)
  have g2 := jgrown_set (w4.setCell ⟨j, 1, none⟩ (.int .i64 N)) j 2 (.int .i64 N)
  have gg := jgrown_trans g1 g2
  have hsz : ((w4.setCell ⟨j, 1, none⟩ (.int .i64 N)).setCell ⟨j, 2, none⟩ (.int .i64 N)).heap.size = w4.heap.size := by simp [World.setCell]
  have h5' : w4.ownsRow w.heap.size 5 1 (.slice ab N cb) N bs := by
    refine ⟨h5.1, ?_⟩
    rcases h5.2 with h6 | ⟨g, cap, cur, e, hb', r⟩
    · exact .inl h6
    · exact .inr ⟨g, cap, cur, e, Nat.le_trans hs2 hb', r⟩
  refine ⟨⟨F, cpF, ab, cb, ⟨jcell_grown h1.1 gg (by simp [hjx.symm]), jcell_grown h1.2.1 gg (by simp [hFj]), jcell_grown h1.2.2.1 gg (by simp [hFj]), jcell_grown h1.2.2.2 gg (by simp [hFj])⟩, Nat.le_trans hs2 h2, by rw [hsz]; exact h3, by rw [World.frozen?_setCell, World.frozen?_setCell]; exact h4, World.ownsRow.kept h5' gg (.inr (fun e => ?_))⟩, ⟨jset_other (jset_other r0 (.inr (by omega))) (.inr (by omega)), jset_other (World.cell?_setCell_same _ _ _ r1) (.inr (by omega)), World.cell?_setCell_same _ _ _ t2, jset_other (jset_other r3 (.inr (by omega))) (.inr (by omega))⟩, ⟨by rw [World.frozen?_setCell, World.frozen?_setCell]; exact z1, by rw [World.frozen?_setCell, World.frozen?_setCell]; exact z2⟩, fun i hi => ?_, ?_, ⟨gg.os.trans (HA3.out.gr.os.trans hb.os), gg.tape.trans (HA3.out.gr.tape.trans hb.tape), gg.output.trans (HA3.out.gr.output.trans hb.output)⟩, fun k hk hkx hkj => ?_⟩
  · have := (World.ownsRow.lt h5 j e).1
    omega
  · rw [World.cell?_setCell_other _ _ _ _ (fun e => by cases e; exact hjx rfl), World.cell?_setCell_other _ _ _ _ (fun e => by cases e; exact hjx rfl), HA3.out.oth i hi]
    exact hb.cell (p := ⟨x, i, none⟩) hxl
  · rw [hsz]; exact Nat.le_trans hs2 HA3.out.gr.size
  · exact (gg.block k (Nat.lt_of_lt_of_le hk (Nat.le_trans hs2 HA3.out.gr.size)) (by simp [hkj])).trans ((HA3.out.gr.block k (Nat.lt_of_lt_of_le hk hs2) (by simp [hkx])).trans (hb.block k hk))
end Go.Proofs.YtllhbhogfffedaaGreatDoor

namespace Go.Proofs.YtllhbhogfffedaaGreatDoor
open Go.RowKit
set_option linter.unusedVariables false
set_option linter.unusedSimpArgs false

/-- What a Write of nothing leaves that makes all safe. -/
structure Wr2 (w : World) (j d x F cp N : Nat) (ab : Option Addr) (cb : Nat) (w' : World) : Prop where
  bx : Bx1 w' x F cp jnm ab N cb N
  jn : Jn w' j d N 0
  size : w.heap.size ≤ w'.heap.size
  sys : w'.os = w.os ∧ w'.tape = w.tape ∧ w'.output = w.output
  blk : ∀ k, k < w.heap.size → k ≠ F → k ≠ j → w'.heap[k]? = w.heap[k]?

set_option maxHeartbeats 4000000 in
set_option maxRecDepth 20000 in
theorem write_syn (w : World) (j d x F cp N : Nat) (aD : Addr) (ab : Option Addr) (cb : Nat) (hT : Tab6 w) (hN0 : 0 < N) (hN1 : N ≤ 1000)
    (hj : Jn w j d N N) (hjz : JnZ w j) (hjx : j ≠ x) (hjF : j ≠ F) (hxF : x ≠ F) (hdF : d ≠ F) (hdj : d ≠ j) (h2s : 0 < w.heap.size) (h2F : F ≠ 0) (h2j : j ≠ 0) (hxl : x < w.heap.size) (hFl : F < w.heap.size)
    (hd : w.cell? ⟨d, 0, none⟩ = some (.pointer (some ⟨x, 0, none⟩))) (hb : Bx1 w x F cp jnm ab N cb 0) (har : w.cell? ⟨x, 2, none⟩ = some (.bool false)) (hw : w.cell? ⟨x, 5, none⟩ = some (.bool false)) (hfz : w.frozen? ⟨F, 2, none⟩ = false)
    (hD : w.cell? ⟨0, 0, none⟩ = some (.iface 218 (.pointer (some aD)))) :
    Calls Tryz.prog 17 #[.pointer (some ⟨j, 0, none⟩), .slice none 0 0, .bool true] w fun e w' => e = .returned .nilIface ∧ Wr2 w j d x F cp N ab cb w' := by
  have HF := frames_ok w j d N N [] none 0 0 hT rfl (by omega) (.inl rfl) (fun r hr => by cases hr) (fun r hr => by cases hr) hj
  have hdl : d < w.heap.size := World.block_lt_of_cell? w ⟨d, 0, none⟩ hd
  obtain ⟨j0, j1, j2, j3⟩ := hj
  have hjl : j < w.heap.size := World.block_lt_of_cell? w ⟨j, 0, none⟩ j0
  have hNn : ¬ (N : Int) = 0 := by omega
  have hNb : ((N : Int) == 0) = false := by rw [beq_eq_false_iff_ne]; omega
  go_enter Tryz.func17, Tryz.ntmps17
  go_wp2_with fail
  refine HF.mono ?_
  rintro e w2 ⟨v2, rfl, ho2, hb2⟩
  have p0 := (hb2.cell (p := ⟨j, 0, none⟩) hjl).trans j0
  have p1 := (hb2.cell (p := ⟨j, 1, none⟩) hjl).trans j1
  have p2 := (hb2.cell (p := ⟨j, 2, none⟩) hjl).trans j2
  have p3 := (hb2.cell (p := ⟨j, 3, none⟩) hjl).trans j3
  have HS2 : Hid (Below w.heap.size w w2) := hb2
  have hs2 : w.heap.size ≤ w2.heap.size := hb2.size
  have hbx : Bx1 w2 x F cp jnm ab N cb 0 := ⟨(hb2.cell (p := ⟨x, 0, none⟩) hxl).trans hb.1, (hb2.cell (p := ⟨F, 0, none⟩) hFl).trans hb.2.1, (hb2.cell (p := ⟨F, 1, none⟩) hFl).trans hb.2.2.1, (hb2.cell (p := ⟨F, 2, none⟩) hFl).trans hb.2.2.2⟩
  have HSy := sync_one w2 d x F cp jnm ab N cb 0 (by omega) (by omega) (by omega) hbx ((hb2.cell (p := ⟨d, 0, none⟩) hdl).trans hd) ((hb2.cell (p := ⟨x, 5, none⟩) hxl).trans hw) ((hb2.cell (p := ⟨x, 2, none⟩) hxl).trans har) ((hb2.frozen (p := ⟨F, 2, none⟩) hFl).trans hfz)
  have HBx : Hid (Bx1 w2 x F cp jnm ab N cb 0) := hbx
  have q0 : w2.cell? ⟨0, 0, none⟩ = some (.iface 218 (.pointer (some aD))) := (hb2.cell (p := ⟨0, 0, none⟩) h2s).trans hD
  have z2 : w2.frozen? ⟨j, 2, none⟩ = false := (hb2.frozen (p := ⟨j, 2, none⟩) hjl).trans hjz.2
  clear HF ho2 hb2 j0 j1 j2 j3 hd hb har hw hfz hD hjz hbx
  go_wp2_with fail
  refine HSy.mono ?_
  rintro e w3 ⟨rfl, hw3⟩
  have g1 := jgrown_set w2 F 2 (.int .i64 N)
  have hg3 : w2.grownBy w3 (some F) := by rw [hw3]; exact jgrown_trans (jgrown_trans (jgrown_trans g1 (jgrown_alloc _ _ _)) (jgrown_alloc _ _ _)) (jgrown_drew _ _)
  have r0 := jcell_grown p0 hg3 (by simp [hjF])
  have r1 := jcell_grown p1 hg3 (by simp [hjF])
  have r2 := jcell_grown p2 hg3 (by simp [hjF])
  have r3 := jcell_grown p3 hg3 (by simp [hjF])
  have hjb : w3.heap[j]? = w2.heap[j]? := hg3.block j (World.block_lt_of_cell? w2 ⟨j, 0, none⟩ p0) (by simp [hjF])
  have z3 : w3.frozen? ⟨j, 2, none⟩ = false := (World.frozen?_of_block (a := ⟨j, 2, none⟩) hjb).trans z2
  have HHd := heard_nil w3 j aD (jcell_grown q0 hg3 (by simp; omega))
  have HB3 : Hid (Bx1 w3 x F cp jnm ab N cb N) := by
    have h := HBx.out
    have gA : (w2.setCell ⟨F, 2, none⟩ (.int .i64 N)).grownBy w3 none := by rw [hw3]; exact jgrown_trans (jgrown_trans (jgrown_alloc _ _ _) (jgrown_alloc _ _ _)) (jgrown_drew _ _)
    exact ⟨jcell_grown (jset_other h.1 (.inl hxF)) gA (by simp), jcell_grown (jset_other h.2.1 (.inr (by omega))) gA (by simp), jcell_grown (jset_other h.2.2.1 (.inr (by omega))) gA (by simp), jcell_grown (World.cell?_setCell_same _ _ _ h.2.2.2) gA (by simp)⟩
  have HG3 : Hid (w2.grownBy w3 (some F)) := hg3
  clear HSy hw3 g1 hg3 hjb p0 p1 p2 p3 z2 q0
  go_wp2_with fail
  refine HHd.mono ?_
  rintro e w4 ⟨rfl, rfl⟩
  clear HHd
  go_wp2
  go_ret
  refine ⟨rfl, ?_⟩
  have gg := jgrown_set w4 j 2 (.int .i64 0)
  have hsz : (w4.setCell ⟨j, 2, none⟩ (.int .i64 0)).heap.size = w4.heap.size := by simp [World.setCell]
  have h := HB3.out
  refine ⟨⟨jcell_grown h.1 gg (by simp [hjx.symm]), jcell_grown h.2.1 gg (by simp [hjF.symm]), jcell_grown h.2.2.1 gg (by simp [hjF.symm]), jcell_grown h.2.2.2 gg (by simp [hjF.symm])⟩, ⟨jset_other r0 (.inr (by omega)), jset_other r1 (.inr (by omega)), World.cell?_setCell_same _ _ _ r2, jset_other r3 (.inr (by omega))⟩, by rw [hsz]; exact Nat.le_trans hs2 HG3.out.size, ⟨gg.os.trans (HG3.out.os.trans HS2.out.os), gg.tape.trans (HG3.out.tape.trans HS2.out.tape), gg.output.trans (HG3.out.output.trans HS2.out.output)⟩, fun k hk hkF hkj => ?_⟩
  exact (gg.block k (Nat.lt_of_lt_of_le hk (Nat.le_trans hs2 HG3.out.size)) (by simp [hkj])).trans ((HG3.out.block k (Nat.lt_of_lt_of_le hk hs2) (by simp [hkF])).trans (HS2.out.block k hk))
end Go.Proofs.YtllhbhogfffedaaGreatDoor

namespace Go.Proofs.YtllhbhogfffedaaGreatDoor
open Go.RowKit
set_option linter.unusedVariables false
set_option linter.unusedSimpArgs false

set_option maxHeartbeats 4000000 in
set_option maxRecDepth 20000 in
/-- Hand.Files of a disk of one file. -/
theorem files_one (w : World) (h x F cp N base : Nat) (s : ByteArray) (ab : Option Addr) (cb : Nat) (k : Int) (bs : List Value) (hN0 : 0 < N) (hN1 : N ≤ 1000)
    (hh : w.cell? ⟨h, 0, none⟩ = some (.pointer (some ⟨x, 0, none⟩))) (hb : Bx1 w x F cp s ab N cb k) (hrow : w.ownsRow base 5 1 (.slice ab N cb) N bs) (hone : ∀ u ∈ bs, u.oneCell' = true) :
    Calls Tryz.prog 28 #[.pointer (some ⟨h, 0, none⟩)] w fun e w' => ∃ G cp', e = .returned (.slice (some ⟨G, 0, none⟩) 1 cp') ∧ w'.cell? ⟨G, 0, none⟩ = some (.string s) ∧ w'.cell? ⟨G, 2, none⟩ = some (.int .i64 k) ∧ Below w.heap.size w w' := by
  obtain ⟨i0, hi, hz0, hz1, hz2⟩ := jinfo_parts Tryz.jinfo_file
  obtain ⟨iu, hiu, hy0, hy1, hy2⟩ := jinfo_parts Tryz.info_u8
  obtain ⟨ga, cb', hv, hg1, hg2⟩ := jown_pos hrow hN0
  cases hv
  obtain ⟨h0, h1, h2, h3⟩ := hb
  obtain ⟨W, hW⟩ : ∃ W, w.alloc (.cells #[.string s, .slice (some ⟨ga, 0, none⟩) N cb, .int .i64 k] 75) = W := ⟨_, rfl⟩
  have s0 : W.cell? ⟨w.heap.size, 0, none⟩ = some (.string s) := by rw [← hW]; simp
  have s1 : W.cell? ⟨w.heap.size, 1, none⟩ = some (.slice (some ⟨ga, 0, none⟩) N cb) := by rw [← hW]; simp
  have s2 : W.cell? ⟨w.heap.size, 2, none⟩ = some (.int .i64 k) := by rw [← hW]; simp
  have hgW : w.grownBy W none := by rw [← hW]; exact jgrown_alloc _ _ _
  have HR : Hid (W.ownsRow base 5 1 (.slice (some ⟨ga, 0, none⟩) N cb) N bs ∧ ∀ u ∈ bs, u.oneCell' = true) := ⟨World.ownsRow.kept hrow hgW (.inr (by simp [Value.ownBlock])), hone⟩
  have HgW : Hid (w.grownBy W none) := hgW
  have hsW := hgW.size
  clear hrow hone hgW
  go_enter Tryz.func28, Tryz.ntmps28
  go_wp2_with fail
  refine wp_loop_rounds 2 ?_
  rw [rounds_succ]
  go_wp2_with fail
  clear hW h0 h1 h2 h3 hh
  go_region_held3 (fun V => V.cell? ⟨w.heap.size, 0, none⟩ = some (.string s) ∧ V.cell? ⟨w.heap.size, 1, none⟩ = some (.slice (some ⟨ga, 0, none⟩) N cb) ∧ V.cell? ⟨w.heap.size, 2, none⟩ = some (.int .i64 k))
    (first | (exact ⟨s0, s1, s2⟩) | (exact ⟨u0, u1, u2⟩) | (exact ⟨e0, e1, e2⟩) | (exact ⟨a0 _, a1 _, a2 _⟩))
    (first
      | (refine step_append_at rfl (.const (.slice none 0 0)) (.tmp 22) 35 rfl w.heap.size 5 iu (.int .u8 0) 1 1 Tryz.underlying35 hiu hy0 hy1 hy2 rfl (by decide) (.slice none 0 0) 0 [] (by simp [Act.eval]) (World.ownsRow_nil _ _ _ _) ⟨ga, 0, none⟩ N cb bs (by simp [Act.eval]) (by have := HR.out.1.1; rw [this]) (fun j u hj => World.ownsRow.cells (g := ga) HR.out.1 rfl j u hj) HR.out.2 (by unfold maxLen; omega) (by omega) (by simp; omega) ?_
         intro v5 w5 hown5 hgrow5 hat5
         have HG5 : Hid (W.grownBy w5 none) := jgrown_trans (jgrown_drew W none) hgrow5
         have e0 := jcell_grown s0 HG5.out (by simp)
         have e1 := jcell_grown s1 HG5.out (by simp)
         have e2 := jcell_grown s2 HG5.out (by simp)
         have a0 : ∀ o, (w5.alloc o).cell? ⟨w.heap.size, 0, none⟩ = some (.string s) := fun o => jcell_grown e0 (jgrown_alloc w5 o none) (by simp)
         have a1 : ∀ o, (w5.alloc o).cell? ⟨w.heap.size, 1, none⟩ = some (.slice (some ⟨ga, 0, none⟩) N cb) := fun o => jcell_grown e1 (jgrown_alloc w5 o none) (by simp)
         have a2 : ∀ o, (w5.alloc o).cell? ⟨w.heap.size, 2, none⟩ = some (.int .i64 k) := fun o => jcell_grown e2 (jgrown_alloc w5 o none) (by simp)
         have hs5 := HG5.out.size
         obtain ⟨g5, c5, hv5, _, _⟩ := jown_pos (by simpa using hown5 : w5.ownsRow w.heap.size 5 1 v5 N bs) hN0
         subst hv5
         clear hown5 hgrow5 hat5)
      | (refine step_append_at rfl (.tmp 18) (.tmp 27) 72 rfl w.heap.size 75 i0 (.agg #[.string ⟨#[]⟩, .slice none 0 0, .int .i64 0]) 3 48 Tryz.underlying72 hi hz0 hz1 hz2 rfl (by decide) (.slice none 0 0) 0 [] (by simp [Act.eval]) (World.ownsRow_nil _ _ _ _) ⟨w5.heap.size, 0, none⟩ 1 1 [.string s, .slice (some ⟨g5, 0, none⟩) N c5, .int .i64 k] (by simp [Act.eval]) rfl (jthree_new w5 _ _ _ _) (by simp [Value.oneCell']) (by unfold maxLen; omega) (by omega) (by simp; omega) ?_
         intro v6 w6 hown6 hgrow6 hat6
         have HG6 : Hid (w5.grownBy w6 none) := jgrown_trans (jgrown_alloc w5 _ none) hgrow6
         have u0 := jcell_grown e0 HG6.out (by simp)
         have u1 := jcell_grown e1 HG6.out (by simp)
         have u2 := jcell_grown e2 HG6.out (by simp)
         have HO6 : Hid (w6.ownsRow w.heap.size 75 3 v6 1 [.string s, .slice (some ⟨g5, 0, none⟩) N c5, .int .i64 k]) := by show World.ownsRow _ _ _ _ _ _ _; simpa using hown6
         obtain ⟨G, cG, hv6, _, _⟩ := jown_pos HO6.out (by omega)
         subst hv6
         clear hown6 hgrow6 hat6))
  have HB : Hid (Below w.heap.size w w6) := by
    have g := jgrown_trans (jgrown_trans HgW.out HG5.out) HG6.out
    exact ⟨g.os, g.tape, g.output, g.size, fun i hi => g.block i hi (by simp)⟩
  have HC : Hid (w6.cell? ⟨G, 0, none⟩ = some (.string s) ∧ w6.cell? ⟨G, 2, none⟩ = some (.int .i64 k)) := ⟨World.ownsRow.cellAt HO6.out 0 (by omega), World.ownsRow.cellAt HO6.out 2 (by omega)⟩
  clear u0 u1 u2 e0 e1 e2 a0 a1 a2 s0 s1 s2
  go_wp2_with fail
  rw [rounds_succ]
  go_wp2
  go_ret
  exact ⟨G, cG, rfl, HC.out.1, HC.out.2, HB.out⟩
end Go.Proofs.YtllhbhogfffedaaGreatDoor
