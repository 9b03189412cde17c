import Derived.Test.YtjolflpmeodnaagDoorJnApp
import Derived.Test.YtjolflpmeodnaagDoorRcFme
import Derived.Test.YtjolflpmeodnaagDoorCards
import Derived.Test.YtjolflpmeodnaagDoorTie
import Derived.WalkKit
import Derived.ProofKit
import Derived.OpenShut
import Derived.ShutString
import Derived.Below
import Derived.JoinedCond
import Derived.Deep.DeepHandedRow
import Derived.Lib.LaidTab
import Derived.Stop.LaidErr
namespace Go.Proofs.YtjolflpmeodnaagDoor
open Go.RowKit
set_option linter.unusedVariables false
set_option linter.unusedSimpArgs false

theorem Ap1.weak {w W0 w' : World} {x n : Nat} {s : ByteArray} {bs : List Value} (h : Ap1 W0 x s n bs w') (hg : w.grownBy W0 none) (hx : x < w.heap.size) : Ap1 w x s n bs w' := by
  obtain ⟨F, cp, ab, cb, h1, h2, h3, h4, h5⟩ := h.ex
  refine ⟨⟨F, cp, ab, cb, h1, Nat.le_trans hg.size h2, h3, h4, ?_⟩, jgrown_trans (jgrown_none hg) h.gr, fun j hj => (h.oth j hj).trans (World.cell?_of_block (a := ⟨x, j, none⟩) (hg.block x hx (by simp)))⟩
  refine ⟨h5.1, ?_⟩
  rcases h5.2 with h6 | ⟨g, cap, cur, e, hb, r⟩
  · exact .inl h6
  · exact .inr ⟨g, cap, cur, e, Nat.le_trans hg.size hb, r⟩

set_option maxHeartbeats 4000000 in
set_option maxRecDepth 20000 in
/-- Disk.Append of a disk without files. -/
theorem append_none (w : World) (d x : Nat) (s : ByteArray) (gb n c base : Nat) (bs : List Value)
    (hd : w.cell? ⟨d, 0, none⟩ = some (.pointer (some ⟨x, 0, none⟩))) (hf : w.cell? ⟨x, 0, none⟩ = some (.slice none 0 0)) (hr : w.cell? ⟨x, 1, none⟩ = some (.int .i64 1000)) (ha : w.cell? ⟨x, 2, none⟩ = some (.bool false)) (hw : w.cell? ⟨x, 5, none⟩ = some (.bool false)) (hfz : w.frozen? ⟨x, 0, none⟩ = false)
    (hrow : w.ownsRow base 5 1 (.slice (some ⟨gb, 0, none⟩) n c) n bs) (hone : ∀ u ∈ bs, u.oneCell' = true) (hn : n ≤ 1000) (hn0 : 0 < n) (hgx : gb ≠ x) (hdx : d ≠ x) :
    Calls Tryd.prog 49 #[.pointer (some ⟨d, 0, none⟩), .string s, .slice (some ⟨gb, 0, none⟩) n c] w fun e w' => e = .returned .nilIface ∧ Ap1 w x s n bs w' := by
  have hxl := World.block_lt_of_cell? w ⟨x, 0, none⟩ hf
  have hdl := World.block_lt_of_cell? w ⟨d, 0, none⟩ hd
  simp only at hxl hdl
  obtain ⟨W, hW⟩ : ∃ W, ((w.alloc (.cells #[.pointer (some ⟨d, 0, none⟩)] 65)).alloc (.cells #[.string s] 9)).alloc (.cells #[.slice (some ⟨gb, 0, none⟩) n c] 25) = W := ⟨_, rfl⟩
  have hg : w.grownBy W none := by rw [← hW]; exact jgrown_trans (jgrown_trans (jgrown_alloc _ _ none) (jgrown_alloc _ _ none)) (jgrown_alloc _ _ none)
  have c0 : W.cell? ⟨w.heap.size, 0, none⟩ = some (.pointer (some ⟨d, 0, none⟩)) := by rw [← hW]; simp [go_sem]
  have c1 : W.cell? ⟨w.heap.size + 1, 0, none⟩ = some (.string s) := by rw [← hW]; simp [go_sem]
  have c2 : W.cell? ⟨w.heap.size + 1 + 1, 0, none⟩ = some (.slice (some ⟨gb, 0, none⟩) n c) := by rw [← hW]; simp [go_sem]
  have d0 := jcell_grown hd hg (by simp)
  have d1 := jcell_grown hf hg (by simp)
  have d2 := jcell_grown hr hg (by simp)
  have d3 := jcell_grown ha hg (by simp)
  have d4 := jcell_grown hw hg (by simp)
  have dz : W.frozen? ⟨x, 0, none⟩ = false := (World.frozen?_of_block (a := ⟨x, 0, none⟩) (hg.block x hxl (by simp))).trans hfz
  have hrw : W.ownsRow base 5 1 (.slice (some ⟨gb, 0, none⟩) n c) n bs := World.ownsRow.kept hrow hg (.inr (by simp [Value.ownBlock]))
  have HU := used_none W.drew x d1
  have HAp := app1_none W.drew w.heap.size (w.heap.size + 1) (w.heap.size + 1 + 1) d x s gb n c base bs c0 c1 c2 d0 d1 dz hrw hone hn hn0 hgx (by omega) (by omega) (by omega) hdx
  have HAct := act_app W.drew x (.pointer (some ⟨w.heap.size, 0, none⟩)) (.pointer (some ⟨w.heap.size + 1, 0, none⟩)) (.pointer (some ⟨w.heap.size + 1 + 1, 0, none⟩)) _ d3 HAp
  have HG : Hid (w.grownBy W.drew none) := jgrown_trans hg (jgrown_drew W none)
  have hn' : ¬ (1000 : Int) < (n : Int) := by omega
  have hwk : IntKind.i64.wrap 1000 = 1000 := by decide
  clear hg hrw HAp hrow hone hd hf hr ha hw hfz dz
  go_enter Tryd.func49, Tryd.ntmps49
  go_upto_region 1 with fail
  try rw [hW]
  clear hW
  go_wp2_with fail
  go_region_held3 (fun V => V.cell? ⟨w.heap.size, 0, none⟩ = some (.pointer (some ⟨d, 0, none⟩)) ∧ V.cell? ⟨w.heap.size + 1 + 1, 0, none⟩ = some (.slice (some ⟨gb, 0, none⟩) n c) ∧ V.cell? ⟨d, 0, none⟩ = some (.pointer (some ⟨x, 0, none⟩)) ∧ V.cell? ⟨x, 1, none⟩ = some (.int .i64 1000))
    (first | (exact ⟨c0, c2, d0, d2⟩))
    (first
      | (go_at_call 67
         refine HU.mono ?_
         rintro e w2 ⟨rfl, rfl⟩))
  go_wp2_with (go_at_call 65; refine HAct.mono ?_; rintro e w3 ⟨rfl, hq3⟩)
  go_ret
  exact ⟨rfl, hq3.weak HG.out hxl⟩
end Go.Proofs.YtjolflpmeodnaagDoor

namespace Go.Proofs.YtjolflpmeodnaagDoor
open Go.RowKit
set_option linter.unusedVariables false
set_option linter.unusedSimpArgs false

/-- A journal's cells may be written. -/
def JnZ (w : World) (j : Nat) : Prop := w.frozen? ⟨j, 1, none⟩ = false ∧ w.frozen? ⟨j, 2, none⟩ = false
/-- The name of a journal's file. -/
abbrev jnm : ByteArray := ⟨#[106, 111, 117, 114, 110, 97, 108]⟩

/-- What the first Write leaves: N bytes are in the file, none of them safe. -/
structure Wr1 (w : World) (j d x N : Nat) (bs : List Value) (w' : World) : Prop where
  ex : ∃ F cp ab cb, Bx1 w' x F cp jnm ab N cb 0 ∧ w.heap.size ≤ F ∧ F < w'.heap.size ∧ w'.frozen? ⟨F, 2, none⟩ = false ∧ w'.ownsRow w.heap.size 5 1 (.slice ab N cb) N bs
  jn : Jn w' j d N N
  jz : JnZ w' j
  oth : ∀ i, i ≠ 0 → w'.cell? ⟨x, i, none⟩ = w.cell? ⟨x, i, none⟩
  size : w.heap.size ≤ w'.heap.size
  sys : w'.os = w.os ∧ w'.tape = w.tape ∧ w'.output = w.output
  blk : ∀ k, k < w.heap.size → k ≠ x → k ≠ j → w'.heap[k]? = w.heap[k]?

set_option maxHeartbeats 4000000 in
set_option maxRecDepth 20000 in
theorem write_one (w : World) (j d x : Nat) (aD : Addr) (l : List Rc) (a : Option Addr) (n c N : Nat) (hT : Tab6 w) (hl : l.length = n) (hn : n ≤ 1048576) (hn0 : 0 < n) (ha : RLin w a l) (hd' : ∀ r ∈ l, Bytey r.data) (hm : ∀ r ∈ l, mayB6 r = true) (hN : (l.flatMap frB).length = N) (hN0 : 0 < N) (hN1 : N ≤ 1000)
    (hj : Jn w j d 0 0) (hjz : JnZ w j) (hjx : j ≠ x) (hdx : d ≠ x) (hj0 : 3 ≤ j) (hx0 : 3 ≤ x) (h2s : 2 < w.heap.size)
    (hd : w.cell? ⟨d, 0, none⟩ = some (.pointer (some ⟨x, 0, none⟩))) (hf : w.cell? ⟨x, 0, none⟩ = some (.slice none 0 0)) (hr : w.cell? ⟨x, 1, none⟩ = some (.int .i64 1000)) (har : w.cell? ⟨x, 2, none⟩ = some (.bool false)) (hw : w.cell? ⟨x, 5, none⟩ = some (.bool false)) (hfz : w.frozen? ⟨x, 0, none⟩ = false)
    (hD : w.cell? ⟨2, 0, none⟩ = some (.iface 140 (.pointer (some aD)))) :
    Calls Tryd.prog 29 #[.pointer (some ⟨j, 0, none⟩), .slice a n c, .bool false] w fun e w' => e = .returned .nilIface ∧ Wr1 w j d x N ((l.flatMap frB).map (Value.int .u8)) w' := by
  have HF := frames_ok w j d 0 0 l a n c hT hl hn ha hd' hm hj
  rw [hN] at HF
  have HB1 : Hid (∀ u ∈ (l.flatMap frB).map (Value.int .u8), u.oneCell' = true) := fun u hu => by obtain ⟨z, _, rfl⟩ := List.mem_map.mp hu; rfl
  generalize (l.flatMap frB).map (Value.int .u8) = bs at *
  have hxl : x < w.heap.size := World.block_lt_of_cell? w ⟨x, 0, none⟩ hf
  have hdl : d < w.heap.size := World.block_lt_of_cell? w ⟨d, 0, none⟩ hd
  obtain ⟨j0, j1, j2, j3⟩ := hj
  have hjl : j < w.heap.size := World.block_lt_of_cell? w ⟨j, 0, none⟩ j0
  have hn' : (0 : Int) < (n : Int) := by omega
  clear hT hl ha hd' hm hN
  go_enter Tryd.func29, Tryd.ntmps29
  go_wp2_with fail
  refine HF.mono ?_
  rintro e w2 ⟨v2, rfl, ho2, hb2⟩
  obtain ⟨gb, cb2, hv2, hg1, hg2⟩ := jown_pos ho2 hN0
  subst hv2
  have p0 := (hb2.cell (p := ⟨j, 0, none⟩) hjl).trans j0
  have p1 := (hb2.cell (p := ⟨j, 1, none⟩) hjl).trans j1
  have p2 := (hb2.cell (p := ⟨j, 2, none⟩) hjl).trans j2
  have p3 := (hb2.cell (p := ⟨j, 3, none⟩) hjl).trans j3
  have HAp := append_none w2 d x jnm gb N cb2 w.heap.size bs ((hb2.cell (p := ⟨d, 0, none⟩) hdl).trans hd) ((hb2.cell (p := ⟨x, 0, none⟩) hxl).trans hf) ((hb2.cell (p := ⟨x, 1, none⟩) hxl).trans hr) ((hb2.cell (p := ⟨x, 2, none⟩) hxl).trans har) ((hb2.cell (p := ⟨x, 5, none⟩) hxl).trans hw) ((hb2.frozen (p := ⟨x, 0, none⟩) hxl).trans hfz) ho2 HB1.out hN1 hN0 (by omega) hdx
  have HS2 : Hid (Below w.heap.size w w2 ∧ w2.frozen? ⟨j, 1, none⟩ = false ∧ w2.frozen? ⟨j, 2, none⟩ = false ∧ w2.cell? ⟨2, 0, none⟩ = some (.iface 140 (.pointer (some aD)))) := ⟨hb2, (hb2.frozen (p := ⟨j, 1, none⟩) hjl).trans hjz.1, (hb2.frozen (p := ⟨j, 2, none⟩) hjl).trans hjz.2, (hb2.cell (p := ⟨2, 0, none⟩) h2s).trans hD⟩
  clear HF ho2 hb2 j0 j1 j2 j3 hd hf hr har hw hfz hD hjz
  go_wp2_with fail
  refine HAp.mono ?_
  rintro e w3 ⟨rfl, hA3⟩
  have r0 := jcell_grown p0 hA3.gr (by simp [hjx])
  have r1 := jcell_grown p1 hA3.gr (by simp [hjx])
  have r2 := jcell_grown p2 hA3.gr (by simp [hjx])
  have r3 := jcell_grown p3 hA3.gr (by simp [hjx])
  have hjb : w3.heap[j]? = w2.heap[j]? := hA3.gr.block j (World.block_lt_of_cell? w2 ⟨j, 0, none⟩ p0) (by simp [hjx])
  have z1 : w3.frozen? ⟨j, 1, none⟩ = false := (World.frozen?_of_block (a := ⟨j, 1, none⟩) hjb).trans HS2.out.2.1
  have z2 : w3.frozen? ⟨j, 2, none⟩ = false := (World.frozen?_of_block (a := ⟨j, 2, none⟩) hjb).trans HS2.out.2.2.1
  have HHd := heard_nil w3 j aD (jcell_grown HS2.out.2.2.2 hA3.gr (by simp; omega))
  have HA3 : Hid (Ap1 w2 x jnm N bs w3) := hA3
  clear HAp hA3 hjb p0 p1 p2 p3
  go_wp2_with fail
  refine HHd.mono ?_
  rintro e w4 ⟨rfl, rfl⟩
  clear HHd
  have hwN : IntKind.i64.wrap (N : Int) = (N : Int) := by rw [IntKind.wrap_i64]; omega
  have hwN0 : IntKind.i64.wrap (0 + (N : Int)) = (N : Int) := by rw [IntKind.wrap_i64]; omega
  have t2 : (w4.setCell ⟨j, 1, none⟩ (.int .i64 N)).cell? ⟨j, 2, none⟩ = some (.int .i64 0) := jset_other r2 (.inr (by omega))
  have tz : (w4.setCell ⟨j, 1, none⟩ (.int .i64 N)).frozen? ⟨j, 2, none⟩ = false := by rw [World.frozen?_setCell]; exact z2
  go_wp2
  go_ret
  refine ⟨rfl, ?_⟩
  obtain ⟨F, cpF, ab, cb, h1, h2, h3, h4, h5⟩ := HA3.out.ex
  have hb := HS2.out.1
  have hs2 : w.heap.size ≤ w2.heap.size := hb.size
  have hFj : F ≠ j := by omega
  have g1 := jgrown_set w4 j 1 (.int .i64 N)
  have g2 := jgrown_set (w4.setCell ⟨j, 1, none⟩ (.int .i64 N)) j 2 (.int .i64 N)
  have gg := jgrown_trans g1 g2
  have hsz : ((w4.setCell ⟨j, 1, none⟩ (.int .i64 N)).setCell ⟨j, 2, none⟩ (.int .i64 N)).heap.size = w4.heap.size := by simp [World.setCell]
  have h5' : w4.ownsRow w.heap.size 5 1 (.slice ab N cb) N bs := by
    refine ⟨h5.1, ?_⟩
    rcases h5.2 with h6 | ⟨g, cap, cur, e, hb', r⟩
    · exact .inl h6
    · exact .inr ⟨g, cap, cur, e, Nat.le_trans hs2 hb', r⟩
  refine ⟨⟨F, cpF, ab, cb, ⟨jcell_grown h1.1 gg (by simp [hjx.symm]), jcell_grown h1.2.1 gg (by simp [hFj]), jcell_grown h1.2.2.1 gg (by simp [hFj]), jcell_grown h1.2.2.2 gg (by simp [hFj])⟩, Nat.le_trans hs2 h2, by rw [hsz]; exact h3, by rw [World.frozen?_setCell, World.frozen?_setCell]; exact h4, World.ownsRow.kept h5' gg (.inr (fun e => ?_))⟩, ⟨jset_other (jset_other r0 (.inr (by omega))) (.inr (by omega)), jset_other (World.cell?_setCell_same _ _ _ r1) (.inr (by omega)), World.cell?_setCell_same _ _ _ t2, jset_other (jset_other r3 (.inr (by omega))) (.inr (by omega))⟩, ⟨by rw [World.frozen?_setCell, World.frozen?_setCell]; exact z1, by rw [World.frozen?_setCell, World.frozen?_setCell]; exact z2⟩, fun i hi => ?_, ?_, ⟨gg.os.trans (HA3.out.gr.os.trans hb.os), gg.tape.trans (HA3.out.gr.tape.trans hb.tape), gg.output.trans (HA3.out.gr.output.trans hb.output)⟩, fun k hk hkx hkj => ?_⟩
  · have := (World.ownsRow.lt h5 j e).1
    omega
  · rw [World.cell?_setCell_other _ _ _ _ (fun e => by cases e; exact hjx rfl), World.cell?_setCell_other _ _ _ _ (fun e => by cases e; exact hjx rfl), HA3.out.oth i hi]
    exact hb.cell (p := ⟨x, i, none⟩) hxl
  · rw [hsz]; exact Nat.le_trans hs2 HA3.out.gr.size
  · exact (gg.block k (Nat.lt_of_lt_of_le hk (Nat.le_trans hs2 HA3.out.gr.size)) (by simp [hkj])).trans ((HA3.out.gr.block k (Nat.lt_of_lt_of_le hk hs2) (by simp [hkx])).trans (hb.block k hk))
end Go.Proofs.YtjolflpmeodnaagDoor

namespace Go.Proofs.YtjolflpmeodnaagDoor
open Go.RowKit
set_option linter.unusedVariables false
set_option linter.unusedSimpArgs false

/-- What a Write of nothing leaves that makes all safe. -/
structure Wr2 (w : World) (j d x F cp N : Nat) (ab : Option Addr) (cb : Nat) (w' : World) : Prop where
  bx : Bx1 w' x F cp jnm ab N cb N
  jn : Jn w' j d N 0
  size : w.heap.size ≤ w'.heap.size
  sys : w'.os = w.os ∧ w'.tape = w.tape ∧ w'.output = w.output
  blk : ∀ k, k < w.heap.size → k ≠ F → k ≠ j → w'.heap[k]? = w.heap[k]?

set_option maxHeartbeats 4000000 in
set_option maxRecDepth 20000 in
theorem write_syn (w : World) (j d x F cp N : Nat) (aD : Addr) (ab : Option Addr) (cb : Nat) (hT : Tab6 w) (hN0 : 0 < N) (hN1 : N ≤ 1000)
    (hj : Jn w j d N N) (hjz : JnZ w j) (hjx : j ≠ x) (hjF : j ≠ F) (hxF : x ≠ F) (hdF : d ≠ F) (hdj : d ≠ j) (h2s : 2 < w.heap.size) (h2F : F ≠ 2) (h2j : j ≠ 2) (hxl : x < w.heap.size) (hFl : F < w.heap.size)
    (hd : w.cell? ⟨d, 0, none⟩ = some (.pointer (some ⟨x, 0, none⟩))) (hb : Bx1 w x F cp jnm ab N cb 0) (har : w.cell? ⟨x, 2, none⟩ = some (.bool false)) (hw : w.cell? ⟨x, 5, none⟩ = some (.bool false)) (hfz : w.frozen? ⟨F, 2, none⟩ = false)
    (hD : w.cell? ⟨2, 0, none⟩ = some (.iface 140 (.pointer (some aD)))) :
    Calls Tryd.prog 29 #[.pointer (some ⟨j, 0, none⟩), .slice none 0 0, .bool true] w fun e w' => e = .returned .nilIface ∧ Wr2 w j d x F cp N ab cb w' := by
  have HF := frames_ok w j d N N [] none 0 0 hT rfl (by omega) (.inl rfl) (fun r hr => by cases hr) (fun r hr => by cases hr) hj
  have hdl : d < w.heap.size := World.block_lt_of_cell? w ⟨d, 0, none⟩ hd
  obtain ⟨j0, j1, j2, j3⟩ := hj
  have hjl : j < w.heap.size := World.block_lt_of_cell? w ⟨j, 0, none⟩ j0
  have hNn : ¬ (N : Int) = 0 := by omega
  have hNb : ((N : Int) == 0) = false := by rw [beq_eq_false_iff_ne]; omega
  go_enter Tryd.func29, Tryd.ntmps29
  go_wp2_with fail
  refine HF.mono ?_
  rintro e w2 ⟨v2, rfl, ho2, hb2⟩
  have p0 := (hb2.cell (p := ⟨j, 0, none⟩) hjl).trans j0
  have p1 := (hb2.cell (p := ⟨j, 1, none⟩) hjl).trans j1
  have p2 := (hb2.cell (p := ⟨j, 2, none⟩) hjl).trans j2
  have p3 := (hb2.cell (p := ⟨j, 3, none⟩) hjl).trans j3
  have HS2 : Hid (Below w.heap.size w w2) := hb2
  have hs2 : w.heap.size ≤ w2.heap.size := hb2.size
  have hbx : Bx1 w2 x F cp jnm ab N cb 0 := ⟨(hb2.cell (p := ⟨x, 0, none⟩) hxl).trans hb.1, (hb2.cell (p := ⟨F, 0, none⟩) hFl).trans hb.2.1, (hb2.cell (p := ⟨F, 1, none⟩) hFl).trans hb.2.2.1, (hb2.cell (p := ⟨F, 2, none⟩) hFl).trans hb.2.2.2⟩
  have HSy := sync_one w2 d x F cp jnm ab N cb 0 (by omega) (by omega) (by omega) hbx ((hb2.cell (p := ⟨d, 0, none⟩) hdl).trans hd) ((hb2.cell (p := ⟨x, 5, none⟩) hxl).trans hw) ((hb2.cell (p := ⟨x, 2, none⟩) hxl).trans har) ((hb2.frozen (p := ⟨F, 2, none⟩) hFl).trans hfz)
  have HBx : Hid (Bx1 w2 x F cp jnm ab N cb 0) := hbx
  have q0 : w2.cell? ⟨2, 0, none⟩ = some (.iface 140 (.pointer (some aD))) := (hb2.cell (p := ⟨2, 0, none⟩) h2s).trans hD
  have z2 : w2.frozen? ⟨j, 2, none⟩ = false := (hb2.frozen (p := ⟨j, 2, none⟩) hjl).trans hjz.2
  clear HF ho2 hb2 j0 j1 j2 j3 hd hb har hw hfz hD hjz hbx
  go_wp2_with fail
  refine HSy.mono ?_
  rintro e w3 ⟨rfl, hw3⟩
  have g1 := jgrown_set w2 F 2 (.int .i64 N)
  have hg3 : w2.grownBy w3 (some F) := by rw [hw3]; exact jgrown_trans (jgrown_trans (jgrown_trans g1 (jgrown_alloc _ _ _)) (jgrown_alloc _ _ _)) (jgrown_drew _ _)
  have r0 := jcell_grown p0 hg3 (by simp [hjF])
  have r1 := jcell_grown p1 hg3 (by simp [hjF])
  have r2 := jcell_grown p2 hg3 (by simp [hjF])
  have r3 := jcell_grown p3 hg3 (by simp [hjF])
  have hjb : w3.heap[j]? = w2.heap[j]? := hg3.block j (World.block_lt_of_cell? w2 ⟨j, 0, none⟩ p0) (by simp [hjF])
  have z3 : w3.frozen? ⟨j, 2, none⟩ = false := (World.frozen?_of_block (a := ⟨j, 2, none⟩) hjb).trans z2
  have HHd := heard_nil w3 j aD (jcell_grown q0 hg3 (by simp; omega))
  have HB3 : Hid (Bx1 w3 x F cp jnm ab N cb N) := by
    have h := HBx.out
    have gA : (w2.setCell ⟨F, 2, none⟩ (.int .i64 N)).grownBy w3 none := by rw [hw3]; exact jgrown_trans (jgrown_trans (jgrown_alloc _ _ _) (jgrown_alloc _ _ _)) (jgrown_drew _ _)
    exact ⟨jcell_grown (jset_other h.1 (.inl hxF)) gA (by simp), jcell_grown (jset_other h.2.1 (.inr (by omega))) gA (by simp), jcell_grown (jset_other h.2.2.1 (.inr (by omega))) gA (by simp), jcell_grown (World.cell?_setCell_same _ _ _ h.2.2.2) gA (by simp)⟩
  have HG3 : Hid (w2.grownBy w3 (some F)) := hg3
  clear HSy hw3 g1 hg3 hjb p0 p1 p2 p3 z2 q0
  go_wp2_with fail
  refine HHd.mono ?_
  rintro e w4 ⟨rfl, rfl⟩
  clear HHd
  go_wp2
  go_ret
  refine ⟨rfl, ?_⟩
  have gg := jgrown_set w4 j 2 (.int .i64 0)
  have hsz : (w4.setCell ⟨j, 2, none⟩ (.int .i64 0)).heap.size = w4.heap.size := by simp [World.setCell]
  have h := HB3.out
  refine ⟨⟨jcell_grown h.1 gg (by simp [hjx.symm]), jcell_grown h.2.1 gg (by simp [hjF.symm]), jcell_grown h.2.2.1 gg (by simp [hjF.symm]), jcell_grown h.2.2.2 gg (by simp [hjF.symm])⟩, ⟨jset_other r0 (.inr (by omega)), jset_other r1 (.inr (by omega)), World.cell?_setCell_same _ _ _ r2, jset_other r3 (.inr (by omega))⟩, by rw [hsz]; exact Nat.le_trans hs2 HG3.out.size, ⟨gg.os.trans (HG3.out.os.trans HS2.out.os), gg.tape.trans (HG3.out.tape.trans HS2.out.tape), gg.output.trans (HG3.out.output.trans HS2.out.output)⟩, fun k hk hkF hkj => ?_⟩
  exact (gg.block k (Nat.lt_of_lt_of_le hk (Nat.le_trans hs2 HG3.out.size)) (by simp [hkj])).trans ((HG3.out.block k (Nat.lt_of_lt_of_le hk hs2) (by simp [hkF])).trans (HS2.out.block k hk))
end Go.Proofs.YtjolflpmeodnaagDoor

namespace Go.Proofs.YtjolflpmeodnaagDoor
open Go.RowKit
set_option linter.unusedVariables false
set_option linter.unusedSimpArgs false

set_option maxHeartbeats 4000000 in
set_option maxRecDepth 20000 in
/-- Hand.Files of a disk of one file. -/
theorem files_one (w : World) (h x F cp N base : Nat) (s : ByteArray) (ab : Option Addr) (cb : Nat) (k : Int) (bs : List Value) (hN0 : 0 < N) (hN1 : N ≤ 1000)
    (hh : w.cell? ⟨h, 0, none⟩ = some (.pointer (some ⟨x, 0, none⟩))) (hb : Bx1 w x F cp s ab N cb k) (hrow : w.ownsRow base 5 1 (.slice ab N cb) N bs) (hone : ∀ u ∈ bs, u.oneCell' = true) :
    Calls Tryd.prog 33 #[.pointer (some ⟨h, 0, none⟩)] w fun e w' => ∃ G cp', e = .returned (.slice (some ⟨G, 0, none⟩) 1 cp') ∧ w'.cell? ⟨G, 0, none⟩ = some (.string s) ∧ w'.cell? ⟨G, 2, none⟩ = some (.int .i64 k) ∧ Below w.heap.size w w' := by
  obtain ⟨i0, hi, hz0, hz1, hz2⟩ := jinfo_parts Tryd.jinfo_file
  obtain ⟨iu, hiu, hy0, hy1, hy2⟩ := jinfo_parts Tryd.info_u8
  obtain ⟨ga, cb', hv, hg1, hg2⟩ := jown_pos hrow hN0
  cases hv
  obtain ⟨h0, h1, h2, h3⟩ := hb
  obtain ⟨W, hW⟩ : ∃ W, w.alloc (.cells #[.string s, .slice (some ⟨ga, 0, none⟩) N cb, .int .i64 k] 73) = W := ⟨_, rfl⟩
  have s0 : W.cell? ⟨w.heap.size, 0, none⟩ = some (.string s) := by rw [← hW]; simp
  have s1 : W.cell? ⟨w.heap.size, 1, none⟩ = some (.slice (some ⟨ga, 0, none⟩) N cb) := by rw [← hW]; simp
  have s2 : W.cell? ⟨w.heap.size, 2, none⟩ = some (.int .i64 k) := by rw [← hW]; simp
  have hgW : w.grownBy W none := by rw [← hW]; exact jgrown_alloc _ _ _
  have HR : Hid (W.ownsRow base 5 1 (.slice (some ⟨ga, 0, none⟩) N cb) N bs ∧ ∀ u ∈ bs, u.oneCell' = true) := ⟨World.ownsRow.kept hrow hgW (.inr (by simp [Value.ownBlock])), hone⟩
  have HgW : Hid (w.grownBy W none) := hgW
  have hsW := hgW.size
  clear hrow hone hgW
  go_enter Tryd.func33, Tryd.ntmps33
  go_wp2_with fail
  refine wp_loop_rounds 2 ?_
  rw [rounds_succ]
  go_wp2_with fail
  clear hW h0 h1 h2 h3 hh
  go_region_held3 (fun V => V.cell? ⟨w.heap.size, 0, none⟩ = some (.string s) ∧ V.cell? ⟨w.heap.size, 1, none⟩ = some (.slice (some ⟨ga, 0, none⟩) N cb) ∧ V.cell? ⟨w.heap.size, 2, none⟩ = some (.int .i64 k))
    (first | (exact ⟨s0, s1, s2⟩) | (exact ⟨u0, u1, u2⟩) | (exact ⟨e0, e1, e2⟩) | (exact ⟨a0 _, a1 _, a2 _⟩))
    (first
      | (refine step_append_at rfl (.const (.slice none 0 0)) (.tmp 22) 25 rfl w.heap.size 5 iu (.int .u8 0) 1 1 Tryd.underlying25 hiu hy0 hy1 hy2 rfl (by decide) (.slice none 0 0) 0 [] (by simp [Act.eval]) (World.ownsRow_nil _ _ _ _) ⟨ga, 0, none⟩ N cb bs (by simp [Act.eval]) (by have := HR.out.1.1; rw [this]) (fun j u hj => World.ownsRow.cells (g := ga) HR.out.1 rfl j u hj) HR.out.2 (by unfold maxLen; omega) (by omega) (by simp; omega) ?_
         intro v5 w5 hown5 hgrow5 hat5
         have HG5 : Hid (W.grownBy w5 none) := jgrown_trans (jgrown_drew W none) hgrow5
         have e0 := jcell_grown s0 HG5.out (by simp)
         have e1 := jcell_grown s1 HG5.out (by simp)
         have e2 := jcell_grown s2 HG5.out (by simp)
         have a0 : ∀ o, (w5.alloc o).cell? ⟨w.heap.size, 0, none⟩ = some (.string s) := fun o => jcell_grown e0 (jgrown_alloc w5 o none) (by simp)
         have a1 : ∀ o, (w5.alloc o).cell? ⟨w.heap.size, 1, none⟩ = some (.slice (some ⟨ga, 0, none⟩) N cb) := fun o => jcell_grown e1 (jgrown_alloc w5 o none) (by simp)
         have a2 : ∀ o, (w5.alloc o).cell? ⟨w.heap.size, 2, none⟩ = some (.int .i64 k) := fun o => jcell_grown e2 (jgrown_alloc w5 o none) (by simp)
         have hs5 := HG5.out.size
         obtain ⟨g5, c5, hv5, _, _⟩ := jown_pos (by simpa using hown5 : w5.ownsRow w.heap.size 5 1 v5 N bs) hN0
         subst hv5
         clear hown5 hgrow5 hat5)
      | (refine step_append_at rfl (.tmp 18) (.tmp 27) 70 rfl w.heap.size 73 i0 (.agg #[.string ⟨#[]⟩, .slice none 0 0, .int .i64 0]) 3 48 Tryd.underlying70 hi hz0 hz1 hz2 rfl (by decide) (.slice none 0 0) 0 [] (by simp [Act.eval]) (World.ownsRow_nil _ _ _ _) ⟨w5.heap.size, 0, none⟩ 1 1 [.string s, .slice (some ⟨g5, 0, none⟩) N c5, .int .i64 k] (by simp [Act.eval]) rfl (jthree_new w5 _ _ _ _) (by simp [Value.oneCell']) (by unfold maxLen; omega) (by omega) (by simp; omega) ?_
         intro v6 w6 hown6 hgrow6 hat6
         have HG6 : Hid (w5.grownBy w6 none) := jgrown_trans (jgrown_alloc w5 _ none) hgrow6
         have u0 := jcell_grown e0 HG6.out (by simp)
         have u1 := jcell_grown e1 HG6.out (by simp)
         have u2 := jcell_grown e2 HG6.out (by simp)
         have HO6 : Hid (w6.ownsRow w.heap.size 73 3 v6 1 [.string s, .slice (some ⟨g5, 0, none⟩) N c5, .int .i64 k]) := by show World.ownsRow _ _ _ _ _ _ _; simpa using hown6
         obtain ⟨G, cG, hv6, _, _⟩ := jown_pos HO6.out (by omega)
         subst hv6
         clear hown6 hgrow6 hat6))
  have HB : Hid (Below w.heap.size w w6) := by
    have g := jgrown_trans (jgrown_trans HgW.out HG5.out) HG6.out
    exact ⟨g.os, g.tape, g.output, g.size, fun i hi => g.block i hi (by simp)⟩
  have HC : Hid (w6.cell? ⟨G, 0, none⟩ = some (.string s) ∧ w6.cell? ⟨G, 2, none⟩ = some (.int .i64 k)) := ⟨World.ownsRow.cellAt HO6.out 0 (by omega), World.ownsRow.cellAt HO6.out 2 (by omega)⟩
  clear u0 u1 u2 e0 e1 e2 a0 a1 a2 s0 s1 s2
  go_wp2_with fail
  rw [rounds_succ]
  go_wp2
  go_ret
  exact ⟨G, cG, rfl, HC.out.1, HC.out.2, HB.out⟩
end Go.Proofs.YtjolflpmeodnaagDoor

namespace Go.Proofs.YtjolflpmeodnaagDoor
open Go.RowKit
set_option linter.unusedVariables false
set_option linter.unusedSimpArgs false

set_option maxRecDepth 20000 in
theorem open_none2 (w : World) (d x : Nat) (aN : Addr) (hT : Tab6 w) (hds : d < w.heap.size) (hxs : x < w.heap.size) (h1s : 1 < w.heap.size) (hd : w.cell? ⟨d, 0, none⟩ = some (.pointer (some ⟨x, 0, none⟩))) (hf : w.cell? ⟨x, 0, none⟩ = some (.slice none 0 0)) (hw : w.cell? ⟨x, 5, none⟩ = some (.bool false)) (hN : w.cell? ⟨1, 0, none⟩ = some (.iface 140 (.pointer (some aN)))) :
    Calls Tryd.prog 27 #[.pointer (some ⟨d, 0, none⟩)] w fun e w' => ∃ j a c, e = .returned (.tuple #[.pointer (some ⟨j, 0, none⟩), .slice a 0 c, .nilIface]) ∧ w.heap.size ≤ j ∧ j < w'.heap.size ∧ w'.heap[j]? = some (.cells #[.pointer (some ⟨d, 0, none⟩), .int .i64 0, .int .i64 0, .bool false] 98) ∧ Below w.heap.size w w' := by
  have HR := removeRest_none w d x aN hds hxs h1s hd hf hw hN
  have HD : Hid (∀ W, Below w.heap.size w W → Calls Tryd.prog 45 #[.pointer (some ⟨d, 0, none⟩)] W fun e w' => e = .returned (.tuple #[.slice none 0 0, .nilIface]) ∧ Below W.heap.size W w') := fun W hb => jread_none W d x aN (Nat.lt_of_lt_of_le h1s hb.size) ((hb.cell (p := ⟨d, 0, none⟩) hds).trans hd) ((hb.cell (p := ⟨x, 0, none⟩) hxs).trans hf) ((hb.cell (p := ⟨x, 5, none⟩) hxs).trans hw) ((hb.cell (p := ⟨1, 0, none⟩) h1s).trans hN)
  have HS : Hid (∀ W, Below w.heap.size w W → Calls Tryd.prog 13 #[.slice none 0 0] W fun e w' => ∃ a c, e = .returned (.tuple #[.slice a 0 c, .int .i64 0]) ∧ Below W.heap.size W w') := fun W hb => scan_nil W (hT.below hb (tab6_pos hT))
  clear hd hf hw hN hT
  go_enter Tryd.func27, Tryd.ntmps27
  go_wp2_with (first
    | (go_at_call 44; refine HR.mono ?_; rintro e w2 ⟨rfl, hb2⟩)
    | (go_at_call 45; refine (HD.out _ hb2).mono ?_; rintro e w3 ⟨rfl, hb3⟩; have HB3 : Hid (Below w.heap.size w w3) := hb2.trans (hb3.mono hb2.size))
    | (go_at_call 13; refine (HS.out _ HB3.out).mono ?_; rintro e w4 ⟨a4, c4, rfl, hb4⟩; have HB4 : Hid (Below w.heap.size w w4) := HB3.out.trans (hb4.mono HB3.out.size)))
  refine bodyPost_ret (v := .tuple #[.pointer (some ⟨w4.heap.size, 0, none⟩), .slice a4 0 c4, .nilIface]) (by simp [results, Tryd.results27, go_sem]) rfl ?_
  exact ⟨_, _, _, rfl, HB4.out.size, by simp, heap_new6 w4 (.cells #[.pointer (some ⟨d, 0, none⟩), .int .i64 0, .int .i64 0, .bool false] 98), HB4.out.alloc HB4.out.size _⟩

/-- The record of the examples. -/
def r300 : Rc := ⟨2, 0, 0, 0, 0, 0, 0, 300, 0, [], []⟩
theorem r300_may : mayB6 r300 = true := by decide
theorem r300_len : ([r300].flatMap frB).length = 11 := by decide

set_option maxRecDepth 20000 in
theorem next7_any (w : World) : Calls Tryd.prog 30 #[.int .i64 300] w fun e w' => e = .returned nextV ∧ Below w.heap.size w w' := by
  go_enter Tryd.func30, Tryd.ntmps30
  go_wp2
  refine bodyPost_ret (v := nextV) (by simp [results, Tryd.results30, go_sem]) rfl ?_
  exact ⟨rfl, (Below.refl _ _).alloc (Nat.le_refl _) _⟩

theorem r300_lin (w : World) : RLin (w.alloc nextO) (some ⟨w.heap.size, 0, none⟩) [r300] := by
  refine .inr ⟨w.heap.size, 0, rfl, fun i r hr => ?_⟩
  match i, hr with
  | 0, hr =>
    simp at hr; subst hr
    refine ⟨none, none, 0, 0, fun j u hj => ?_, ⟨rfl, rfl, by decide, C.Ls.nil _, .inl rfl, fun _ => ⟨rfl, rfl⟩⟩⟩
    obtain ⟨c0, c1, c2, c3, c4, c5, c6, c7, c8, c9, c10⟩ := next_cells (heap_new6 w nextO)
    have hj2 : j < 11 := (Array.getElem?_eq_some_iff.mp hj).1
    match j, hj2, hj with
    | 0, _, hj => cases hj; exact c0
    | 1, _, hj => cases hj; exact c1
    | 2, _, hj => cases hj; exact c2
    | 3, _, hj => cases hj; exact c3
    | 4, _, hj => cases hj; exact c4
    | 5, _, hj => cases hj; exact c5
    | 6, _, hj => cases hj; exact c6
    | 7, _, hj => cases hj; exact c7
    | 8, _, hj => cases hj; exact c8
    | 9, _, hj => cases hj; exact c9
    | 10, _, hj => cases hj; exact c10
  | i + 1, hr => simp at hr

theorem jown_block {w w' : World} {base n sz : Nat} {e : TypeId} {v : Value} {xs : List Value} (h : w.ownsRow base e sz v n xs) (hk : ∀ g, v.ownBlock = some g → w'.heap[g]? = w.heap[g]?) : w'.ownsRow base e sz v n xs := by
  obtain ⟨h1, h2⟩ := h
  refine ⟨h1, ?_⟩
  rcases h2 with h2 | ⟨g, cap, cur, rfl, hg, hh, r⟩
  · exact .inl h2
  · exact .inr ⟨g, cap, cur, rfl, hg, (hk g rfl).trans hh, r⟩

set_option maxHeartbeats 8000000 in
set_option maxRecDepth 100000 in
theorem awake7_any (w : World) (aN aD : Addr) (hT : Tab6 w) (h3 : 3 ≤ w.heap.size) (hN : w.cell? ⟨1, 0, none⟩ = some (.iface 140 (.pointer (some aN)))) (hD : w.cell? ⟨2, 0, none⟩ = some (.iface 140 (.pointer (some aD)))) :
    Calls Tryd.prog 16 #[] w fun e w' => e = .returned (.bool true) ∧ Below w.heap.size w w' := by
  have H1 := diskNew_any w
  obtain ⟨w1, hw1⟩ : ∃ W, (w.alloc (.cells (bx0 1000) 90)).alloc (.cells #[.pointer (some ⟨w.heap.size, 0, none⟩)] 92) = W := ⟨_, rfl⟩
  rw [hw1] at H1
  have hs1 : w1.heap.size = w.heap.size + 2 := by rw [← hw1]; simp
  have hx1 : w1.heap[w.heap.size]? = some (.cells (bx0 1000) 90) := by
    rw [← hw1]
    exact (Below.heap_alloc _ _ _ (by simp)).trans (heap_new6 w _)
  have hh1 : w1.cell? ⟨w.heap.size + 1, 0, none⟩ = some (.pointer (some ⟨w.heap.size, 0, none⟩)) := by rw [← hw1]; simp [go_sem]
  have b1 : Below w.heap.size w w1 := by rw [← hw1]; exact ((Below.refl _ _).alloc (Nat.le_refl _) _).alloc (by simp) _
  have H2 := diskOf_any w1 (w.heap.size + 1) w.heap.size hh1
  obtain ⟨w2, hw2⟩ : ∃ W, w1.alloc (.cells #[.pointer (some ⟨w.heap.size, 0, none⟩)] 100) = W := ⟨_, rfl⟩
  rw [hw2] at H2
  have hs2 : w2.heap.size = w.heap.size + 3 := by rw [← hw2]; simp [hs1]
  have hx2 : w2.heap[w.heap.size]? = some (.cells (bx0 1000) 90) := by rw [← hw2]; exact (Below.heap_alloc _ _ _ (by omega)).trans hx1
  have hd2 : w2.cell? ⟨w1.heap.size, 0, none⟩ = some (.pointer (some ⟨w.heap.size, 0, none⟩)) := by rw [← hw2]; simp [go_sem]
  have b2 : Below w.heap.size w w2 := by rw [← hw2]; exact b1.alloc (by omega) _
  have hh2 : w2.cell? ⟨w.heap.size + 1, 0, none⟩ = some (.pointer (some ⟨w.heap.size, 0, none⟩)) := by rw [← hw2]; exact jcell_grown hh1 (jgrown_alloc _ _ none) (by simp)
  rw [hs1] at hd2 H2
  have H3 := open_none2 w2 (w.heap.size + 2) w.heap.size aN (hT.below b2 (tab6_pos hT)) (by omega) (by omega) (by omega) hd2 (cell_of_row _ _ 0 _ _ _ hx2) (cell_of_row _ _ 5 _ _ _ hx2) ((b2.cell (p := ⟨1, 0, none⟩) (by simp; omega)).trans hN)
  have HX : Hid (w2.heap[w.heap.size]? = some (.cells (bx0 1000) 90) ∧ w2.cell? ⟨w.heap.size + 2, 0, none⟩ = some (.pointer (some ⟨w.heap.size, 0, none⟩)) ∧ w2.cell? ⟨w.heap.size + 1, 0, none⟩ = some (.pointer (some ⟨w.heap.size, 0, none⟩)) ∧ Below w.heap.size w w2 ∧ Tab6 w ∧ w.cell? ⟨2, 0, none⟩ = some (.iface 140 (.pointer (some aD)))) := ⟨hx2, hd2, hh2, b2, hT, hD⟩
  clear hx1 hh1 hx2 hd2 hh2 b1 b2 hT hN hD hw1 hw2
  go_enter Tryd.func16, Tryd.ntmps16
  go_wp2_with fail
  refine H1.mono ?_
  rintro e w1' ⟨rfl, rfl⟩
  clear H1
  go_wp2_with fail
  refine H2.mono ?_
  rintro e w2' ⟨rfl, rfl⟩
  clear H2
  go_wp2_with fail
  refine H3.mono ?_
  rintro e w3 ⟨j, a3, c3, rfl, hj1, hj2, hjb, hb3⟩
  have H4 := next7_any w3
  have HJ : Hid (w3.heap[j]? = some (.cells #[.pointer (some ⟨w.heap.size + 2, 0, none⟩), .int .i64 0, .int .i64 0, .bool false] 98) ∧ Below w2'.heap.size w2' w3) := ⟨hjb, hb3⟩
  clear H3 hjb hb3
  go_wp2_with fail
  refine H4.mono ?_
  rintro e w4 ⟨rfl, hb4⟩
  clear H4
  have b24 : Below w2'.heap.size w2' (w4.alloc nextO) := (HJ.out.2.trans (hb4.mono HJ.out.2.size)).alloc (Nat.le_trans HJ.out.2.size hb4.size) _
  have b34 : Below w3.heap.size w3 (w4.alloc nextO) := hb4.alloc hb4.size _
  have hx5 : (w4.alloc nextO).heap[w.heap.size]? = some (.cells (bx0 1000) 90) := (b24.block _ (by omega)).trans HX.out.1
  have hj5 : (w4.alloc nextO).heap[j]? = some (.cells #[.pointer (some ⟨w.heap.size + 2, 0, none⟩), .int .i64 0, .int .i64 0, .bool false] 98) := (b34.block _ hj2).trans HJ.out.1
  have hd5 : (w4.alloc nextO).cell? ⟨w.heap.size + 2, 0, none⟩ = some (.pointer (some ⟨w.heap.size, 0, none⟩)) := (b24.cell (p := ⟨w.heap.size + 2, 0, none⟩) (by simp; omega)).trans HX.out.2.1
  have b05 : Below w.heap.size w (w4.alloc nextO) := HX.out.2.2.2.1.trans (b24.mono (by omega))
  have hs5 : w2'.heap.size ≤ (w4.alloc nextO).heap.size := b24.size
  have H5 := write_one (w4.alloc nextO) j (w.heap.size + 2) w.heap.size aD [r300] (some ⟨w4.heap.size, 0, none⟩) 1 1 11 (HX.out.2.2.2.2.1.below b05 (tab6_pos HX.out.2.2.2.2.1)) rfl (by omega) (by omega) (r300_lin w4) (fun r hr => by simp at hr; subst hr; exact fun z hz => by cases hz) (fun r hr => by simp at hr; subst hr; exact r300_may) r300_len (by omega) (by omega)
    ⟨cell_of_row _ _ 0 _ _ _ hj5, cell_of_row _ _ 1 _ _ _ hj5, cell_of_row _ _ 2 _ _ _ hj5, cell_of_row _ _ 3 _ _ _ hj5⟩ ⟨frozen_of_row _ _ 1 _ _ hj5, frozen_of_row _ _ 2 _ _ hj5⟩ (by omega) (by omega) (by omega) (by omega) (by omega)
    hd5 (cell_of_row _ _ 0 _ _ _ hx5) (cell_of_row _ _ 1 _ _ _ hx5) (cell_of_row _ _ 2 _ _ _ hx5) (cell_of_row _ _ 5 _ _ _ hx5) (frozen_of_row _ _ 0 _ _ hx5) ((b05.cell (p := ⟨2, 0, none⟩) (by simp; omega)).trans HX.out.2.2.2.2.2)
  have HW5 : Hid (Below w.heap.size w (w4.alloc nextO) ∧ (w4.alloc nextO).cell? ⟨w.heap.size + 2, 0, none⟩ = some (.pointer (some ⟨w.heap.size, 0, none⟩)) ∧ (w4.alloc nextO).heap[w.heap.size]? = some (.cells (bx0 1000) 90) ∧ (w4.alloc nextO).cell? ⟨w.heap.size + 1, 0, none⟩ = some (.pointer (some ⟨w.heap.size, 0, none⟩))) := ⟨b05, hd5, hx5, (b24.cell (p := ⟨w.heap.size + 1, 0, none⟩) (by simp; omega)).trans HX.out.2.2.1⟩
  have hjl5 : j < (w4.alloc nextO).heap.size := (Array.getElem?_eq_some_iff.mp hj5).1
  have HBs : Hid ((∀ u ∈ ([r300].flatMap frB).map (Value.int .u8), u.oneCell' = true) ∧ ∀ u, (([r300].flatMap frB).map (Value.int .u8))[0]? = some u → ∃ z, u = .int .u8 z) := ⟨fun u hu => by obtain ⟨z, _, rfl⟩ := List.mem_map.mp hu; rfl, fun u hu => by
    rw [List.getElem?_map] at hu
    obtain ⟨z, _, rfl⟩ := Option.map_eq_some_iff.mp hu
    exact ⟨z, rfl⟩⟩
  have HBl : Hid ((([r300].flatMap frB).map (Value.int .u8)).length = 11) := by show _ = _; rw [List.length_map]; exact r300_len
  generalize ([r300].flatMap frB).map (Value.int .u8) = bs at *
  clear hb4 b24 b34 hx5 hj5 hd5 b05 HJ
  go_wp2_with fail
  refine H5.mono ?_
  clear H5
  generalize w4.alloc nextO = w5 at *
  rintro e w6 ⟨rfl, hr6⟩
  obtain ⟨F, cpF, ab, cb, hbx, hF1, hF2, hFz, hrow⟩ := hr6.ex
  have hs6 := hr6.size
  have H6 := jsize_any w6 j (w.heap.size + 2) 11 11 hr6.jn
  have H7 := jloose_any w6 j (w.heap.size + 2) 11 11 hr6.jn
  have b56 : Below w.heap.size w w6 := ⟨hr6.sys.1.trans HW5.out.1.os, hr6.sys.2.1.trans HW5.out.1.tape, hr6.sys.2.2.trans HW5.out.1.output, Nat.le_trans HW5.out.1.size hs6, fun k hk => (hr6.blk k (by have := HW5.out.1.size; omega) (by omega) (by omega)).trans (HW5.out.1.block k hk)⟩
  have hd6 : w6.cell? ⟨w.heap.size + 2, 0, none⟩ = some (.pointer (some ⟨w.heap.size, 0, none⟩)) := (World.cell?_of_block (a := ⟨w.heap.size + 2, 0, none⟩) (hr6.blk (w.heap.size + 2) (by omega) (by omega) (by omega))).trans HW5.out.2.1
  have hh6 : w6.cell? ⟨w.heap.size + 1, 0, none⟩ = some (.pointer (some ⟨w.heap.size, 0, none⟩)) := (World.cell?_of_block (a := ⟨w.heap.size + 1, 0, none⟩) (hr6.blk (w.heap.size + 1) (by omega) (by omega) (by omega))).trans HW5.out.2.2.2
  have H8 := write_syn w6 j (w.heap.size + 2) w.heap.size F cpF 11 aD ab cb (HX.out.2.2.2.2.1.below b56 (tab6_pos HX.out.2.2.2.2.1)) (by omega) (by omega) hr6.jn hr6.jz (by omega) (by omega) (by omega) (by omega) (by omega) (by omega) (by omega) (by omega) (by omega) hF2 hd6 hbx ((hr6.oth 2 (by omega)).trans (cell_of_row _ _ 2 _ _ _ HW5.out.2.2.1)) ((hr6.oth 5 (by omega)).trans (cell_of_row _ _ 5 _ _ _ HW5.out.2.2.1)) hFz ((b56.cell (p := ⟨2, 0, none⟩) (by simp; omega)).trans HX.out.2.2.2.2.2)
  have hgF : ∀ g, (Value.slice ab 11 cb).ownBlock = some g → g ≠ F := fun g hg e => by
    subst e
    obtain ⟨g', c', hv, _, _⟩ := jown_pos hrow (by omega)
    cases hv
    simp only [Value.ownBlock, Option.some.injEq] at hg
    subst hg
    have h0 := World.ownsRow.cellAt hrow 0 (by omega)
    rw [hbx.2.1] at h0
    obtain ⟨z, hz⟩ := HBs.out.2 _ h0.symm
    cases hz
  have HR6 : Hid (w6.ownsRow w5.heap.size 5 1 (.slice ab 11 cb) 11 bs ∧ (∀ g, (Value.slice ab 11 cb).ownBlock = some g → g ≠ F) ∧ Below w.heap.size w w6 ∧ w6.cell? ⟨w.heap.size + 1, 0, none⟩ = some (.pointer (some ⟨w.heap.size, 0, none⟩))) := ⟨hrow, hgF, b56, hh6⟩
  clear hr6 hbx hFz hrow b56 hd6 hh6 hgF HW5
  go_wp2_with fail
  refine H6.mono ?_
  rintro e w6' ⟨rfl, rfl⟩
  go_wp2_with fail
  refine H7.mono ?_
  rintro e w6'' ⟨rfl, rfl⟩
  clear H6 H7
  go_wp2_with fail
  refine H8.mono ?_
  rintro e w7 ⟨rfl, hr7⟩
  have hs7 := hr7.size
  have H9 := jloose_any w7 j (w.heap.size + 2) 11 0 hr7.jn
  have hrow7 : w7.ownsRow w5.heap.size 5 1 (.slice ab 11 cb) 11 bs := jown_block HR6.out.1 (fun g hg => hr7.blk g (World.ownsRow.lt HR6.out.1 g hg).2 (HR6.out.2.1 g hg) (by have := (World.ownsRow.lt HR6.out.1 g hg).1; omega))
  have hh7 : w7.cell? ⟨w.heap.size + 1, 0, none⟩ = some (.pointer (some ⟨w.heap.size, 0, none⟩)) := (World.cell?_of_block (a := ⟨w.heap.size + 1, 0, none⟩) (hr7.blk (w.heap.size + 1) (by omega) (by omega) (by omega))).trans HR6.out.2.2.2
  have H10 := files_one w7 (w.heap.size + 1) w.heap.size F cpF 11 w5.heap.size jnm ab cb 11 bs (by omega) (by omega) hh7 hr7.bx hrow7 HBs.out.1
  have b7 : Below w.heap.size w w7 := ⟨hr7.sys.1.trans HR6.out.2.2.1.os, hr7.sys.2.1.trans HR6.out.2.2.1.tape, hr7.sys.2.2.trans HR6.out.2.2.1.output, Nat.le_trans HR6.out.2.2.1.size hs7, fun k hk => (hr7.blk k (by have := HR6.out.2.2.1.size; omega) (by omega) (by omega)).trans (HR6.out.2.2.1.block k hk)⟩
  have HB7 : Hid (Below w.heap.size w w7) := b7
  clear H8 hr7 hrow7 hh7 b7 HR6
  go_wp2_with fail
  refine H9.mono ?_
  rintro e w7' ⟨rfl, rfl⟩
  clear H9
  go_wp2_with fail
  refine H10.mono ?_
  rintro e w8 ⟨G, cG, rfl, g0, g2, hb8⟩
  have HB8 : Hid (Below w.heap.size w w8) := HB7.out.trans (hb8.mono HB7.out.size)
  clear H10 hb8 HB7
  go_wp2
  go_ret
  exact ⟨by simp, HB8.out⟩
end Go.Proofs.YtjolflpmeodnaagDoor

namespace Go.Proofs.YtjolflpmeodnaagDoor.journalNames
open Go.ChangeShapes Go.WideShapes Go.ChangeAt Go.RowKit
set_option linter.unusedVariables false

theorem own : ownKnob Tryd.prog.godebug = none := by kernel_rfl
theorem gTab : Tryd.prog.globalNamed "lantern/record.kinds" = some 0 := by kernel_rfl
theorem gTabType : (Tryd.prog.globals[0]?).map (·.type) = some 105 := by kernel_rfl
theorem cellsTab : Tryd.prog.cellsOf 105 = 13 := by kernel_rfl
theorem cellsParts : Tryd.prog.cellsOf 75 = 1 := by kernel_rfl
theorem gN : Tryd.prog.globalNamed "lantern/disk.ErrNone" = some 1 := by kernel_rfl
theorem gNType : (Tryd.prog.globals[1]?).map (·.type) = some 62 := by kernel_rfl
theorem gD : Tryd.prog.globalNamed "lantern/disk.ErrDown" = some 2 := by kernel_rfl
theorem gDType : (Tryd.prog.globals[2]?).map (·.type) = some 62 := by kernel_rfl
theorem cellsS : Tryd.prog.cellsOf 165 = 1 := by kernel_rfl
theorem cellsStr : Tryd.prog.cellsOf 9 = 1 := by kernel_rfl
theorem star : "*" ++ "errors.errorString" = "*errors.errorString" := by decide
theorem rowE (u : TypeId) (h : Tryd.prog.typeName? 3 u = some "*errors.errorString") : u = 140 :=
  typeName_ptr_named (nm := "errors.errorString") (by rw [star]; kernel_rfl) (by kernel_rfl) (by decide) u (by rw [star]; exact h)

/-- What the row's list gives: the table's cells hold its numbers, the two sentinels their pointers. -/
theorem table {W : World} (h0 : laidMetH Tryd.prog Rows.journalNamesRow.laid W) : Tab6 W ∧ 3 ≤ W.heap.size ∧ ∃ aN aD : Addr, W.cell? ⟨1, 0, none⟩ = some (.iface 140 (.pointer (some aN))) ∧ W.cell? ⟨2, 0, none⟩ = some (.iface 140 (.pointer (some aD))) := by
  have h : laidMet Tryd.prog Rows.journalNamesRow.laid W := h0
  have h1 : Lib.TabIs Tryd.prog W "lantern/record.kinds" .u16 kiT :=
    Lib.tabIs_of_head (rest := []) gTab gTabType Tryd.underlying105 Tryd.underlying75 cellsParts cellsTab h.tail.tail.tail
  obtain ⟨aD, sD, hvD, _, _, _⟩ := laid_sentinel h.tail gD gDType Tryd.underlying62 rowE Tryd.underlying140 Tryd.underlying165 rfl rfl Tryd.underlying9 cellsS cellsStr
  obtain ⟨aN, sN, hvN, _, _, _⟩ := laid_sentinel h.tail.tail gN gNType Tryd.underlying62 rowE Tryd.underlying140 Tryd.underlying165 rfl rfl Tryd.underlying9 cellsS cellsStr
  have cD : W.cell? ⟨2, 0, none⟩ = some (.iface 140 (.pointer (some aD))) := World.var?_cell gD hvD 0
  have cN : W.cell? ⟨1, 0, none⟩ = some (.iface 140 (.pointer (some aN))) := World.var?_cell gN hvN 0
  exact ⟨fun i hi => h1.cell gTab i hi, World.block_lt_of_cell? W ⟨2, 0, none⟩ cD, aN, aD, cN, cD⟩

/-- A world for the witness: the table and the sentinels hold what their initialisers lay. -/
def laidWorld (P : Program) (os : Os) : World :=
  let w0 := World.holding P os ⟨#[.cells #[.string ⟨#[116, 104, 101, 32, 100, 105, 115, 107, 32, 104, 97, 115, 32, 110, 111, 32, 114, 111, 111, 109]⟩] 165, .cells #[.string ⟨#[116, 104, 101, 32, 100, 105, 115, 107, 32, 105, 115, 32, 100, 111, 119, 110]⟩] 165, .cells #[.string ⟨#[110, 111, 32, 115, 117, 99, 104, 32, 102, 105, 108, 101]⟩] 165], #[], []⟩
  let low := (World.holding P default ⟨#[], #[], []⟩).heap.size
  { w0 with heap := (((w0.heap.modify 0 fun
      | .cells _ t frozen => .cells #[.int .u16 0, .int .u16 65, .int .u16 64, .int .u16 623, .int .u16 131, .int .u16 3, .int .u16 635, .int .u16 3, .int .u16 131, .int .u16 3, .int .u16 3, .int .u16 320, .int .u16 107] t frozen
      | o => o).modify 3 fun
      | .cells _ t frozen => .cells #[.iface 140 (.pointer (some ⟨low, 0, none⟩))] t frozen
      | o => o).modify 2 fun
      | .cells _ t frozen => .cells #[.iface 140 (.pointer (some ⟨low + 1, 0, none⟩))] t frozen
      | o => o).modify 1 fun
      | .cells _ t frozen => .cells #[.iface 140 (.pointer (some ⟨low + 2, 0, none⟩))] t frozen
      | o => o }
theorem laid_met (os : Os) : laidMet Tryd.prog Rows.journalNamesRow.laid ((laidWorld Tryd.prog os).forCall (fun _ _ => 0) ⟨#[], #[], []⟩).memory :=
  laidMet_of_run' 8 (by kernel_rfl) (by kernel_rfl)
theorem reads (os : Os) {H : Type} (enc : TypeId × Value → H) : ∃ places, DataW.whole enc Tryd.prog ((laidWorld Tryd.prog os).forCall (fun _ _ => 0) ⟨#[], #[], []⟩).memory Tryd.f5.params.toList Rows.journalNamesSpec.vars false ([] : List Value) 8 = some ([], [], places) :=
  ⟨[], by kernel_rfl⟩

set_option maxRecDepth 100000 in
set_option maxHeartbeats 1000000 in
theorem walk (w : World) (aN aD : Addr) (hT : Tab6 w) (h3 : 3 ≤ w.heap.size) (hN : w.cell? ⟨1, 0, none⟩ = some (.iface 140 (.pointer (some aN)))) (hD : w.cell? ⟨2, 0, none⟩ = some (.iface 140 (.pointer (some aD)))) :
    Calls Tryd.prog 5 #[] w fun e w' => e = .returned (.bool true) ∧ Below w.heap.size w w' := by
  have ha := awake7_any w aN aD hT h3 hN hD
  clear hT h3 hN hD
  go_enter Tryd.func5, Tryd.ntmps5
  go_wp2_with (first | (go_at_call 16; refine ha.mono ?_; rintro e w1 ⟨rfl, hb⟩) | go_in)
  go_ret
  exact ⟨rfl, hb⟩

set_option maxRecDepth 100000 in
theorem lifted (os : Os) (started : os.Started) (H : Type) (enc : TypeId × Value → H) (F : Stop.Interp) :
    ReturnsInHanded {} Tryd.checked os 5 .any ((OpenSpec.ofChange Rows.journalNamesSpec).preRow enc Tryd.prog Tryd.f5 Rows.journalNamesRow.domain false Rows.journalNamesRow.laid) (((OpenSpec.ofChange Rows.journalNamesSpec).at F).post enc Tryd.prog Tryd.f5 false true false false) := by
  obtain ⟨places, hx⟩ := reads os enc
  refine returnsInHanded_of_row (C := Tryd.checked) (s := OpenSpec.ofChange Rows.journalNamesSpec) own started (by kernel_rfl) Tryd.func5
    (witness_row_at (enc := enc) (C := Tryd.checked) false (laidWorld Tryd.prog os) #[] rfl (by kernel_rfl) (by kernel_rfl) (by kernel_rfl)
      (OpenSpec.preRow_of_cond 8 hx (by kernel_rfl) (fun k hk => by cases hk) (by kernel_rfl) (laid_met os))) ?_
  intro W base args ds gs before hval0 hW _ hk0 _ hL _ _
  have hW' := hW
  obtain ⟨p, q, hA0, hV, rfl, hfz, hnd⟩ := hW
  have hA : DataW.TrodAll enc Tryd.prog W 0 (fun _ => true) true Tryd.f5.params.toList args.toList ds p := hA0
  rw [Tryd.params5] at hA
  obtain ⟨rfl, rfl, rfl⟩ := trodAll_none hA
  obtain ⟨rfl, rfl⟩ := trodVars_none hV
  clear hA0 hval0
  simp only [List.append_nil] at hW'
  obtain ⟨hT, h3, aN, aD, hN, hD⟩ := table hL
  refine (walk W aN aD hT h3 hN hD).mono fun e W' ⟨he, bel⟩ => ?_
  subst he
  exact ⟨_, rfl, _, _, _, [], _, [], hW', trodAll_mk1 (shut_bool Tryd.underlying4 _), trodAll_mk0, rfl, bel.frame _, fun h => by cases h⟩

theorem plain (f : FuncId) (fn : Func) (hf : Tryd.pinned.checked.prog.funcNamed "lantern/lanternlaw07.JournalNames" = some f) (hfn : Tryd.pinned.checked.prog.funcs[f]? = some fn) :
    true = Tryd.pinned.checked.prog.looks [] ∧ ∀ (j : Nat) t, fn.params[j]? = some t → Tryd.pinned.checked.prog.wantsStandIn t = false := by
  obtain rfl : f = 5 := Option.some.inj ((show Tryd.prog.funcNamed "lantern/lanternlaw07.JournalNames" = some 5 by kernel_rfl).symm.trans hf) |>.symm
  obtain rfl : fn = Tryd.f5 := (Option.some.inj (Tryd.func5.symm.trans hfn)).symm
  refine ⟨by kernel_rfl, fun j t ht => ?_⟩
  rw [Tryd.params5] at ht
  simp at ht

end Go.Proofs.YtjolflpmeodnaagDoor.journalNames

namespace Go.Proofs.YtjolflpmeodnaagDoor

theorem journalNames_said : Rows.JournalNamesSaid :=
  OpenClaim.holds_of_cond 5 Tryd.f5 rfl rfl rfl rfl rfl rfl rfl ⟨rfl, rfl, rfl, rfl, rfl⟩ rfl rfl rfl rfl rfl (by kernel_rfl) Tryd.func5 (by kernel_rfl)
    (of_decide_eq_true (by kernel_rfl)) (by unfold Func.isWrapper; first | (rw [if_pos (by decide +kernel)]; kernel_rfl) | (rw [if_neg (by decide +kernel)]; exact ⟨rfl, rfl⟩))
    (fun os started H enc _ F => by rw [OpenClaim.pre_eq_preRow]; exact journalNames.lifted os started H enc F)

theorem journalNames_card : Rows.JournalNamesCardSaid :=
  Claim7.holds_tied_plain_at .later [] _ _ _ _ journalNames_said (fun _ h => by cases h) (by kernel_rfl) (fun _ h => by cases h) journalNames_row_tie rfl ⟨rfl, rfl⟩ (by kernel_rfl) rfl journalNames.plain (by kernel_rfl)
#print axioms journalNames_card

end Go.Proofs.YtjolflpmeodnaagDoor
