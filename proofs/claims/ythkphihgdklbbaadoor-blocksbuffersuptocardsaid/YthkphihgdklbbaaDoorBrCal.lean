import Derived.Test.YthkphihgdklbbaaDoorBrMath
import Derived.Test.YthkphihgdklbbaaDoorBfRd
namespace Go.Proofs.YthkphihgdklbbaaDoor.C
open Go.RowKit Go.Shelf
set_option linter.unusedVariables false

theorem own_base0R {w : World} {base size n : Nat} {e : TypeId} {v : Value} {xs : List Value} (h : w.ownsRow base e size v n xs) : w.ownsRow 0 e size v n xs := by
  obtain ⟨hl, h | ⟨g, cap, cur, rfl, hb, hh, r⟩⟩ := h
  · exact ⟨hl, .inl h⟩
  · exact ⟨hl, .inr ⟨g, cap, cur, rfl, Nat.zero_le _, hh, r⟩⟩
/-! ## The document's buffer in memory -/
structure Rf (w : World) (Br : Nat) (F : Nat → Prop) (P : List Int) (dr : Bool) : Prop where
  ex : ∃ pv, w.heap[Br]? = some (.cells #[pv, .bool dr] 105 (0, 0)) ∧ IOw w 0 pv P ∧ ∀ k, pv.ownBlock = some k → F k
  self : F Br
theorem Rf.lt {w : World} {Br : Nat} {F : Nat → Prop} {P : List Int} {dr : Bool} (h : Rf w Br F P dr) : Br < w.heap.size := by
  obtain ⟨pv, h1, _⟩ := h.ex; exact (Array.getElem?_eq_some_iff.1 h1).1
theorem Rf.mono {w : World} {Br : Nat} {F G : Nat → Prop} {P : List Int} {dr : Bool} (h : Rf w Br F P dr) (hf : ∀ k, F k → G k) : Rf w Br G P dr := by
  obtain ⟨pv, h1, h2, h3⟩ := h.ex
  exact ⟨⟨pv, h1, h2, fun k hk => hf k (h3 k hk)⟩, hf _ h.self⟩
theorem Rf.same {w w' : World} {Br : Nat} {F : Nat → Prop} {P : List Int} {dr : Bool} (h : Rf w Br F P dr) (hs : ∀ k, F k → k < w.heap.size → w'.heap[k]? = w.heap[k]?) : Rf w' Br F P dr := by
  obtain ⟨pv, h1, h2, h3⟩ := h.ex
  exact ⟨⟨pv, (hs Br h.self h.lt).trans h1, own_same0 h2 (fun k hk => hs k (h3 k hk) (h2.lt k hk).2), h3⟩, h.self⟩
theorem Rf.below {w w' : World} {Br : Nat} {F : Nat → Prop} {P : List Int} {dr : Bool} (h : Rf w Br F P dr) (hb : Below w.heap.size w w') : Rf w' Br F P dr := h.same (fun k _ hk => hb.block k hk)
theorem Rf.cut {w : World} {Br : Nat} {F : Nat → Prop} {P : List Int} {dr : Bool} (h : Rf w Br F P dr) : Rf w Br (fun k => F k ∧ k < w.heap.size) P dr := by
  obtain ⟨pv, h1, h2, h3⟩ := h.ex
  exact ⟨⟨pv, h1, h2, fun k hk => ⟨h3 k hk, (h2.lt k hk).2⟩⟩, h.self, h.lt⟩
theorem iow_none {w : World} {a : Option Addr} {n c : Nat} {L : List Int} (h : IOw w 0 (.slice a n c) L) : a = none → n = 0 ∧ c = 0 := by
  intro ha
  obtain ⟨_, ⟨h1, _⟩ | ⟨g, cap, cur, h1, _⟩⟩ := h
  · cases h1; exact ⟨rfl, rfl⟩
  · rw [ha] at h1; cases h1
/-- What 'with' answers, of a buffer that says the same. -/
theorem wt_put {b : Bf} {P zs L : List Int} {at' fr cl er : Int} (hw : WtR P b.dr at' zs L fr cl er) (h : RelB b P) (hb : b.Ok) (hz : Bytey zs) : ∃ b', PutR b at' zs fr cl er b' ∧ (er = 0 → RelB b' L) ∧ (er ≠ 0 → b' = b) := by
  rcases hw with ⟨h1, rfl, rfl, rfl⟩ | ⟨h0, h1, rfl, rfl, rfl⟩ | ⟨hm, out, ho, hc⟩
  · exact ⟨b, .inl ⟨h1, rfl, rfl, rfl, rfl⟩, fun e => by omega, fun _ => rfl⟩
  · exact ⟨b, .inr (.inl ⟨h0, h1, rfl, rfl, rfl, rfl⟩), fun e => by omega, fun _ => rfl⟩
  · obtain ⟨a, rfl⟩ : ∃ a : Nat, at' = a := ⟨at'.toNat, by have := hm.2.2.1; omega⟩
    simp only [Int.toNat_natCast] at ho hc
    obtain ⟨r1, r2, r3, r4⟩ := with_rel h hb hz hm ho
    rcases hc with ⟨c1, rfl, rfl, rfl⟩ | ⟨c1, rfl, c3, c4, rfl⟩
    · exact ⟨b, .inr (.inr ⟨hm, out, r1, .inr ⟨c1, rfl, rfl, rfl, rfl⟩⟩), fun e => by omega, fun _ => rfl⟩
    · exact ⟨putB b a zs out, .inr (.inr ⟨hm, out, r1, .inl ⟨c1, rfl, by rw [c3, r2], by rw [c4, r3], rfl⟩⟩), fun _ => r4 c1, fun e => absurd rfl e⟩

theorem newR_any (w : World) : Calls Tryd.prog 20 #[] w fun e w' => e = .returned (.pointer (some ⟨w.heap.size, 0, none⟩)) ∧ Rf w' w.heap.size (fun k => w.heap.size ≤ k) [] false ∧ Below w.heap.size w w' := by
  have HB : Hid (Rf (w.alloc (.cells #[.slice none 0 0, .bool false] 105)) w.heap.size (fun k => w.heap.size ≤ k) [] false) :=
    ⟨⟨.slice none 0 0, heap_alloc_new' _ _, World.ownsRow_nil _ _ _ _, (by intro k hk; cases hk)⟩, Nat.le_refl _⟩
  have HL : Hid (Below w.heap.size w (w.alloc (.cells #[.slice none 0 0, .bool false] 105))) := (Below.refl _ _).alloc (Nat.le_refl _) _
  go_enter Tryd.func20, Tryd.ntmps20
  go_wp2
  go_ret
  exact ⟨rfl, HB.out, HL.out⟩

set_option maxHeartbeats 4000000 in
theorem lookR_any (Br : Nat) (b : Bf) (P : List Int) (F : Nat → Prop) (at' : Int) (ad : Option Addr) (nd cd : Nat) (zs : List Int) (w : World) (hB : Rf w Br F P b.dr) (hr : RelB b P) (hb : b.Ok) (hnd : zs.length = nd) (hmx : nd ≤ 140737488355328) (hz : Lies .u8 w ad zs) (hzb : Bytey zs) :
    Calls Tryd.prog 24 #[.pointer (some ⟨Br, 0, none⟩), .int .i64 at', .slice ad nd cd] w (LkPost b at' zs w) := by
  obtain ⟨pv, h1, h2, h3⟩ := hB.ex
  obtain ⟨ap, cp, rfl⟩ : ∃ a c, pv = .slice a P.length c := own_shape h2
  have hw := withR_any Br P b.dr ap P.length cp at' ad nd cd zs w h1 rfl (iow_lies h2) hr.len (iow_none h2) hnd hmx hz hzb
  have HR : Hid (RelB b P ∧ b.Ok ∧ Bytey zs) := ⟨hr, hb, hzb⟩
  clear hB h1 h2 h3 hr hb hz hzb
  go_enter Tryd.func24, Tryd.ntmps24
  go_wp2_with fail
  refine hw.mono ?_
  rintro e w1 ⟨v1, L, fr, cl, er, rfl, ho1, hw1, hb1⟩
  obtain ⟨a1, c1, rfl⟩ := own_shape ho1
  obtain ⟨b', hp, _, _⟩ := wt_put hw1 HR.out.1 HR.out.2.1 HR.out.2.2
  have HE : Hid (PutR b at' zs fr cl er b' ∧ Below w.heap.size w w1) := ⟨hp, hb1⟩
  clear hw ho1 hw1 hb1 hp
  go_wp2
  go_ret3
  exact ⟨fr, cl, er, b', rfl, HE.out.1, HE.out.2⟩

def PtPostR (b : Bf) (Br : Nat) (F : Nat → Prop) (at' : Int) (zs : List Int) (w : World) (e : Ending) (w' : World) : Prop := ∃ fr cl er b' P', e = .returned (.tuple #[.int .i64 fr, .int .i64 cl, .int .i64 er]) ∧ PutR b at' zs fr cl er b' ∧ Rf w' Br (fun k => F k ∨ w.heap.size ≤ k) P' b.dr ∧ RelB b' P' ∧ Kf F w w'
set_option maxHeartbeats 4000000 in
theorem putR_any (Br : Nat) (b : Bf) (P : List Int) (F : Nat → Prop) (at' : Int) (ad : Option Addr) (nd cd : Nat) (zs : List Int) (w : World) (hB : Rf w Br F P b.dr) (hr : RelB b P) (hb : b.Ok) (hnd : zs.length = nd) (hmx : nd ≤ 140737488355328) (hz : Lies .u8 w ad zs) (hzb : Bytey zs) :
    Calls Tryd.prog 22 #[.pointer (some ⟨Br, 0, none⟩), .int .i64 at', .slice ad nd cd] w (PtPostR b Br F at' zs w) := by
  obtain ⟨pv, h1, h2, h3⟩ := hB.ex
  obtain ⟨ap, cp, rfl⟩ : ∃ a c, pv = .slice a P.length c := own_shape h2
  have hw := withR_any Br P b.dr ap P.length cp at' ad nd cd zs w h1 rfl (iow_lies h2) hr.len (iow_none h2) hnd hmx hz hzb
  have HR : Hid (RelB b P ∧ b.Ok ∧ Bytey zs) := ⟨hr, hb, hzb⟩
  have HB : Hid (Rf w Br F P b.dr) := hB
  have HBk : Hid (w.heap[Br]? = some (.cells #[.slice ap P.length cp, .bool b.dr] 105 (0, 0))) := h1
  clear hB h1 h2 h3 hr hb hz hzb
  go_enter Tryd.func22, Tryd.ntmps22
  go_wp2_with fail
  refine hw.mono ?_
  rintro e w1 ⟨v1, L, fr, cl, er, rfl, ho1, hw1, hb1⟩
  obtain ⟨a1, c1, rfl⟩ := own_shape ho1
  obtain ⟨b', hp, hp2, hp3⟩ := wt_put hw1 HR.out.1 HR.out.2.1 HR.out.2.2
  have hbk1 : w1.heap[Br]? = some (.cells #[.slice ap P.length cp, .bool b.dr] 105 (0, 0)) := (hb1.block _ (Array.getElem?_eq_some_iff.1 HBk.out).1).trans HBk.out
  have e0 : w1.cell? ⟨Br, 0, none⟩ = some (.slice ap P.length cp) := cell_of_row _ _ 0 _ _ _ hbk1
  have e1 : w1.frozen? ⟨Br, 0, none⟩ = false := frozen_of_row _ _ 0 _ _ hbk1
  by_cases he : er = 0
  · subst he
    have hBl := HB.out.lt
    have HE : Hid (PutR b at' zs fr cl 0 b' ∧ Rf (w1.setCell ⟨Br, 0, none⟩ (.slice a1 L.length c1)) Br (fun k => F k ∨ w.heap.size ≤ k) L b.dr ∧ RelB b' L ∧ Kf F w (w1.setCell ⟨Br, 0, none⟩ (.slice a1 L.length c1))) := by
      have hne : ∀ k, (Value.slice a1 L.length c1).ownBlock = some k → k ≠ Br := fun k hk => by have := (ho1.lt k hk).1; omega
      refine ⟨hp, ⟨⟨.slice a1 L.length c1, ?_, own_same0 (own_base0R ho1) (fun k hk => Below.heap_setCell _ _ _ _ (hne k hk)), fun k hk => .inr (ho1.lt k hk).1⟩, .inl HB.out.self⟩, hp2 rfl, ⟨⟨hb1.os, hb1.tape, hb1.output⟩, by have := hb1.size; simpa [World.setCell] using this, fun k hk hn => (Below.heap_setCell _ _ _ _ (fun e => hn (by rw [e]; exact HB.out.self))).trans (hb1.block k hk)⟩⟩
      simp [World.setCell, Array.getElem?_modify, hbk1]
    clear hw ho1 hw1 hb1 hp hp2 hp3 hbk1 hBl
    go_wp2
    go_ret3
    exact ⟨fr, cl, 0, b', L, rfl, HE.out⟩
  · have HE : Hid (PutR b at' zs fr cl er b' ∧ Rf w1 Br (fun k => F k ∨ w.heap.size ≤ k) P b.dr ∧ RelB b' P ∧ Kf F w w1) := ⟨hp, (HB.out.below hb1).mono (fun _ h => .inl h), by rw [hp3 he]; exact HR.out.1, .of_below hb1⟩
    clear hw ho1 hw1 hb1 hp hp2 hp3 hbk1 e0 e1
    go_wp2
    go_ret3
    exact ⟨fr, cl, er, b', P, rfl, HE.out⟩

theorem haveR_any (Br : Nat) (b : Bf) (P : List Int) (F : Nat → Prop) (w : World) (hB : Rf w Br F P b.dr) (hr : RelB b P) (hb : b.Ok) : Calls Tryd.prog 26 #[.pointer (some ⟨Br, 0, none⟩)] w fun e w' => ∃ v, e = .returned v ∧ SOwn w' w.heap.size v b.l ∧ Below w.heap.size w w' := by
  obtain ⟨pv, h1, h2, h3⟩ := hB.ex
  obtain ⟨ap, cp, rfl⟩ : ∃ a c, pv = .slice a P.length c := own_shape h2
  have q0 : w.cell? ⟨Br, 0, none⟩ = some (.slice ap P.length cp) := cell_of_row _ _ 0 _ _ _ h1
  have hsp := spansR_any ap P.length cp P w rfl (iow_lies h2) (by have := hr.len; omega)
  have HR : Hid (∀ out, SpR P P.length out → out = b.l) := fun out ho => hr.spans hb ho
  clear hB h1 h2 h3 hr hb
  go_enter Tryd.func26, Tryd.ntmps26
  go_wp2_with fail
  refine hsp.mono ?_
  rintro e w1 ⟨v1, out, rfl, ho1, hs1, hb1⟩
  obtain rfl := HR.out _ hs1
  obtain ⟨a1, c1, rfl⟩ := ho1.shape
  have HE : Hid (SOwn w1 w.heap.size (.slice a1 b.l.length c1) b.l ∧ Below w.heap.size w w1) := ⟨ho1, hb1⟩
  clear hsp ho1 hs1 hb1
  go_wp2
  go_ret
  exact ⟨_, rfl, HE.out.1, HE.out.2⟩

theorem dropR_any (Br : Nat) (P : List Int) (dr : Bool) (F : Nat → Prop) (w : World) (hB : Rf w Br F P dr) : Calls Tryd.prog 31 #[.pointer (some ⟨Br, 0, none⟩)] w fun e w' => (∃ v, e = .returned v) ∧ Rf w' Br F P true ∧ Kf F w w' := by
  obtain ⟨pv, h1, h2, h3⟩ := hB.ex
  have q1 : w.cell? ⟨Br, 1, none⟩ = some (.bool dr) := cell_of_row _ _ 1 _ _ _ h1
  have f1 : w.frozen? ⟨Br, 1, none⟩ = false := frozen_of_row _ _ 1 _ _ h1
  have HE : Hid (Rf (w.setCell ⟨Br, 1, none⟩ (.bool true)) Br F P true ∧ Kf F w (w.setCell ⟨Br, 1, none⟩ (.bool true))) := by
    refine ⟨⟨⟨pv, ?_, own_same0 h2 (fun k hk => Below.heap_setCell _ _ _ _ (fun e => ?_)), h3⟩, hB.self⟩, ⟨Ox.refl w, by simp [World.setCell], fun k hk hn => Below.heap_setCell _ _ _ _ (fun e => hn (by rw [e]; exact hB.self))⟩⟩
    · simp [World.setCell, Array.getElem?_modify, h1]
    · subst e
      obtain ⟨_, ⟨h9, _⟩ | ⟨g', cap, cur, h9, _, hh, _⟩⟩ := h2
      · rw [h9] at hk; cases hk
      · rw [h9] at hk; cases hk; rw [h1] at hh; cases hh
  clear hB h1 h2 h3
  go_enter Tryd.func31, Tryd.ntmps31
  go_wp2
  go_end0
  exact ⟨⟨_, rfl⟩, HE.out.1, HE.out.2⟩
theorem drop_rel {b : Bf} {P : List Int} (h : RelB b P) : RelB (dropB b) P := ⟨h.hs, h.len, h.vl, fun hd => by cases hd⟩

end Go.Proofs.YthkphihgdklbbaaDoor.C

namespace Go.Proofs.YthkphihgdklbbaaDoor.C
open Go.RowKit Go.Shelf
set_option linter.unusedVariables false

theorem cb_cnt (p : Int → Bool) : ∀ n : Nat, cb p 0 n = cnt p n
  | 0 => rfl
  | n + 1 => by
    simp only [cb, cnt, cb_cnt p n]
    rw [show (0 : Int) + (n : Int) = (n : Int) from by omega]
    split <;> simp
theorem held_cb {b : Bf} {P : List Int} (h : RelB b P) (hb : b.Ok) : siz b.l = cb (fun i => pl P i) 0 P.length := by
  rw [siz_cnt hb.set.2 (Int.le_refl _) P.length (fun s hs => ?_), ← cb_cnt]
  · exact cb_congr (fun i _ _ => h.hs i)
  · have h1 := hb.set.2.mem s hs
    have h2 : has b.l (s.2 - 1) = true := has_mem.mpr ⟨s, hs, by omega, by omega⟩
    rw [h.hs] at h2
    have := pl_iff.mp h2
    omega
theorem pl_step (P : List Int) (j : Nat) (hj : j < P.length) : cb (fun i => pl P i) 0 (j + 1) = cb (fun i => pl P i) 0 j + (if 0 ≤ P.getD j 0 then 1 else 0) := by
  simp only [cb]
  have ht : (0 : Int) + (j : Int) = j := by omega
  have hp : pl P ((0 : Int) + (j : Int)) = decide (0 ≤ P.getD j 0) := by
    rw [ht]
    unfold pl
    have : ((j : Int)).toNat = j := by omega
    rw [this]
    by_cases c : 0 ≤ P.getD j 0
    · rw [decide_eq_true c, decide_eq_true ⟨by omega, by omega, c⟩]
    · rw [decide_eq_false c, decide_eq_false (fun q => c q.2.2)]
  by_cases c : 0 ≤ P.getD j 0
  · rw [if_pos c, if_pos (by rw [hp]; exact decide_eq_true c)]
  · rw [if_neg c, if_neg (by rw [hp, decide_eq_false c]; simp)]

set_option maxRecDepth 100000 in
set_option maxHeartbeats 4000000 in
theorem heldR_any (Br : Nat) (b : Bf) (P : List Int) (F : Nat → Prop) (w : World) (hB : Rf w Br F P b.dr) (hr : RelB b P) (hb : b.Ok) : Calls Tryd.prog 28 #[.pointer (some ⟨Br, 0, none⟩)] w fun e w' => e = .returned (.int .i64 (heldN b)) ∧ Below w.heap.size w w' := by
  obtain ⟨pv, h1, h2, h3⟩ := hB.ex
  obtain ⟨N, hN⟩ : ∃ N, P.length = N := ⟨_, rfl⟩
  obtain ⟨ap, cp, rfl⟩ : ∃ a c, pv = .slice a P.length c := own_shape h2
  have HL : Hid (Lies .i64 w ap P ∧ P.length = N) := ⟨iow_lies h2, hN⟩
  have hlen := hr.len
  rw [hN] at h1 hlen
  have q0 : w.cell? ⟨Br, 0, none⟩ = some (.slice ap N cp) := cell_of_row _ _ 0 _ _ _ h1
  have q1 : w.cell? ⟨Br, 1, none⟩ = some (.bool b.dr) := cell_of_row _ _ 1 _ _ _ h1
  have HH : Hid (siz b.l = cb (fun i => pl P i) 0 N) := by rw [← hN]; exact held_cb hr hb
  clear hB h1 h2 h3 hr hb hN
  cases hd : b.dr with
  | true =>
    have HE : Hid (heldN b = 0) := by unfold Hid heldN; rw [if_pos hd]
    rw [hd] at q1
    go_enter Tryd.func28, Tryd.ntmps28
    go_wp2_with fail
    go_loopw [3, 4] (fun n p wr => n = .int .i64 0 ∧ p = .int .i64 0 ∧ wr = w) (fun _ _ _ => 0)
    case atStart => exact ⟨rfl, rfl, rfl⟩
    case round =>
      obtain ⟨rfl, rfl, rfl⟩ := hrel
      by_cases hz : 0 < (N : Int)
      · go_wp2
        go_ret
        exact ⟨by rw [HE.out]; rfl, Below.refl _ _⟩
      · go_wp2
        go_ret
        exact ⟨by rw [HE.out]; rfl, Below.refl _ _⟩
  | false =>
    have HE : Hid (heldN b = siz b.l) := by unfold Hid heldN; rw [if_neg (by simp [hd])]
    rw [hd] at q1
    go_enter Tryd.func28, Tryd.ntmps28
    go_wp2_with fail
    go_loopw [3, 4] (fun n p wr => ∃ (j : Nat) (nv : Int), n = .int .i64 nv ∧ p = .int .i64 (j : Int) ∧ j ≤ N ∧ 0 ≤ nv ∧ nv ≤ 65536 ∧ Hid (nv = cb (fun i => pl P i) 0 j) ∧ wr = w) (fun _ p _ => N - (intOf p).toNat)
    case atStart => exact ⟨0, 0, rfl, rfl, by omega, by omega, by omega, rfl, rfl⟩
    case round =>
      obtain ⟨j, nv, rfl, rfl, hj, n0, n1, HV, rfl⟩ := hrel
      by_cases hlt : j < N
      · have hlt' : (j : Int) < (N : Int) := by omega
        obtain ⟨g, off, rfl, hc⟩ := lies_atR HL.out.1 (i := j) (by rw [HL.out.2]; exact hlt)
        have c1 := hc j (by rw [HL.out.2]; exact hlt)
        have hw1 : IntKind.i64.wrap ((j : Int) + 1) = ((j + 1 : Nat) : Int) := by rw [IntKind.wrap_i64]; omega
        have hw2 : IntKind.i64.wrap (nv + 1) = nv + 1 := by rw [IntKind.wrap_i64]; omega
        have hst := pl_step P j (by rw [HL.out.2]; exact hlt)
        have hbd := cb_bound (fun i => pl P i) 0 (j + 1)
        clear hc
        by_cases hpos : 0 ≤ P.getD j 0
        · rw [if_pos hpos, ← HV.out] at hst
          have HV2 : Hid (nv + 1 = cb (fun i => pl P i) 0 (j + 1)) := hst.symm
          have HB2 : Hid (nv + 1 ≤ 65536) := by have := HV2.out; unfold Hid; omega
          clear hst hbd
          generalize P.getD j 0 = lv at c1 hpos
          go_wp2
          go_roundw
          case rel => exact ⟨j + 1, nv + 1, rfl, rfl, by omega, by omega, HB2.out, HV2, trivial⟩
          case measure => simp [intOf]; omega
        · rw [if_neg hpos, ← HV.out, Int.add_zero] at hst
          have HV2 : Hid (nv = cb (fun i => pl P i) 0 (j + 1)) := hst.symm
          clear hst hbd
          generalize P.getD j 0 = lv at c1 hpos
          go_wp2
          go_roundw
          case rel => exact ⟨j + 1, nv, rfl, rfl, by omega, n0, n1, HV2, trivial⟩
          case measure => simp [intOf]; omega
      · obtain rfl : j = N := by omega
        have hnl : ¬ ((j : Int) < (j : Int)) := by omega
        go_wp2
        go_ret
        exact ⟨by rw [HE.out, HH.out, ← HV.out]; rfl, Below.refl _ _⟩

/-! ## Read -/
theorem rd_iff {b : Bf} {P : List Int} {f t : Int} (h : RelB b P) (hb : b.Ok) : rdB b f t = true ↔ b.dr = false ∧ 0 ≤ f ∧ f < t ∧ t ≤ P.length ∧ ∀ i : Nat, f ≤ i → (i : Int) < t → 0 ≤ P.getD i 0 := by
  constructor
  · intro hr
    have hf := rd_fits hb hr
    unfold rdB at hr
    simp only [Bool.and_eq_true, decide_eq_true_eq, Bool.not_eq_true'] at hr
    obtain ⟨_, _, h3⟩ := cv_has hr.2.2
    have key : ∀ x, f ≤ x → x < t → 0 ≤ x ∧ x < P.length ∧ 0 ≤ P.getD x.toNat 0 := fun x x1 x2 => by
      have := h3 x x1 x2
      rw [h.hs] at this
      exact pl_iff.mp this
    refine ⟨hf.1, hf.2.1, hf.2.2.1, ?_, fun i i1 i2 => ?_⟩
    · have := key (t - 1) (by omega) (by omega); omega
    · have := key i i1 i2; simpa using this.2.2
  · rintro ⟨h1, h2, h3, h4, h5⟩
    have hl := h.len
    have hask : Asked (f, t) := ⟨h2, by show f ≤ t; omega, by show t ≤ _; omega⟩
    unfold rdB cvB
    rw [h1, decide_eq_true h3, setB_iff.mpr hb.set, askB_iff.mpr hask, cover_math hb.set.2 hask (fun x hx => by
      have q := inn_iff.mp hx
      simp only at q
      rw [h.hs]
      refine pl_iff.mpr ⟨by omega, by omega, ?_⟩
      exact h5 x.toNat (by omega) (by omega))]
    rfl
theorem rd_bytes {b : Bf} {P : List Int} {f t : Int} (h : RelB b P) (hb : b.Ok) (hr : rdB b f t = true) : rdL b f t = (P.drop f.toNat).take (t - f).toNat := by
  obtain ⟨h1, h2, h3, h4, h5⟩ := (rd_iff h hb).mp hr
  have hf := rd_fits hb hr
  unfold rdL
  rw [if_pos hr]
  apply List.ext_getElem
  · rw [List.length_take, List.length_drop, List.length_take, List.length_drop]; omega
  · intro i i1 i2
    rw [List.length_take, List.length_drop] at i2
    have e1 := h.eq h1 (f.toNat + i) (by
      rw [h.hs]
      refine pl_iff.mpr ⟨by omega, by omega, ?_⟩
      exact h5 _ (by omega) (by omega))
    simp only [List.getD_eq_getElem?_getD] at e1
    rw [List.getElem?_eq_getElem (by omega), List.getElem?_eq_getElem (by omega)] at e1
    simp only [List.getElem_take, List.getElem_drop]
    exact e1.symm
theorem own_lowR {w : World} {base base' size n : Nat} {e : TypeId} {v : Value} {xs : List Value} (h : w.ownsRow base e size v n xs) (hb : base' ≤ base) : w.ownsRow base' e size v n xs := by
  obtain ⟨hl, h | ⟨g, cap, cur, rfl, hg, hh, r⟩⟩ := h
  · exact ⟨hl, .inl h⟩
  · exact ⟨hl, .inr ⟨g, cap, cur, rfl, Nat.le_trans hb hg, hh, r⟩⟩
theorem u8_wrap {v : Int} (h0 : 0 ≤ v) (h1 : v ≤ 255) : IntKind.u8.wrap v = v := by
  unfold IntKind.wrap; simp [IntKind.signed, IntKind.bits]; omega
theorem rd_vals {b : Bf} {P : List Int} (h : RelB b P) {i : Nat} (hi : i < P.length) (hp : 0 ≤ P.getD i 0) : P.getD i 0 ≤ 255 := (h.vl i hi).2

set_option maxRecDepth 100000 in
set_option maxHeartbeats 4000000 in
theorem readR_any (Br : Nat) (b : Bf) (P : List Int) (F : Nat → Prop) (f t : Int) (w : World) (hB : Rf w Br F P b.dr) (hr : RelB b P) (hb : b.Ok) : Calls Tryd.prog 29 #[.pointer (some ⟨Br, 0, none⟩), .agg #[.int .i64 f, .int .i64 t]] w (RdPost b f t w) := by
  obtain ⟨i0, hi, hz0, hz1, hz2⟩ := info_parts Tryd.info_u8b
  obtain ⟨pv, h1, h2, h3⟩ := hB.ex
  obtain ⟨N, hN⟩ : ∃ N, P.length = N := ⟨_, rfl⟩
  obtain ⟨ap, cp, rfl⟩ : ∃ a c, pv = .slice a P.length c := own_shape h2
  have HL : Hid (Lies .i64 w ap P ∧ P.length = N ∧ RelB b P ∧ b.Ok) := ⟨iow_lies h2, hN, hr, hb⟩
  have hlen := hr.len
  have hIf := rd_iff (f := f) (t := t) hr hb
  rw [hN] at h1 hlen hIf
  have HIf : Hid (rdB b f t = true ↔ b.dr = false ∧ 0 ≤ f ∧ f < t ∧ t ≤ N ∧ ∀ i : Nat, f ≤ i → (i : Int) < t → 0 ≤ P.getD i 0) := hIf
  obtain ⟨W0, hW0⟩ : ∃ W0, W0 = w.alloc (.cells #[.int .i64 f, .int .i64 t] 38) := ⟨_, rfl⟩
  have HB0 : Hid (Below w.heap.size w W0) := by rw [hW0]; exact (Below.refl _ _).alloc (Nat.le_refl _) _
  have hBl : Br < w.heap.size := (Array.getElem?_eq_some_iff.1 h1).1
  have q0 : W0.cell? ⟨Br, 0, none⟩ = some (.slice ap N cp) := (HB0.out.cell (p := ⟨Br, 0, none⟩) hBl).trans (cell_of_row _ _ 0 _ _ _ h1)
  have q1 : W0.cell? ⟨Br, 1, none⟩ = some (.bool b.dr) := (HB0.out.cell (p := ⟨Br, 1, none⟩) hBl).trans (cell_of_row _ _ 1 _ _ _ h1)
  have r0 : W0.cell? ⟨w.heap.size, 0, none⟩ = some (.int .i64 f) := by rw [hW0]; exact box0 _ _ _ _
  have r1 : W0.cell? ⟨w.heap.size, 1, none⟩ = some (.int .i64 t) := by rw [hW0]; exact box1 _ _ _ _
  clear hB h1 h2 h3 hr hb hN hBl hIf
  by_cases hok : b.dr = false ∧ 0 ≤ f ∧ f < t ∧ t ≤ N
  · obtain ⟨hd, k0, k1, k2⟩ := hok
    rw [hd] at q1
    have g1 : ¬ (f < 0) := by omega
    have g2 : ¬ (t ≤ f) := by omega
    have g3 : ¬ ((N : Int) < t) := by omega
    have g1' : decide (f < 0) = false := decide_eq_false g1
    have g2' : decide (t ≤ f) = false := decide_eq_false g2
    have g3' : decide ((N : Int) < t) = false := decide_eq_false g3
    rw [hW0] at q0 q1 r0 r1 HB0
    go_enter Tryd.func29, Tryd.ntmps29
    go_wp2_with fail
    go_quiet (fail)
    rw [← hW0] at q0 q1 r0 r1 HB0 ⊢
    obtain ⟨W1, hW1⟩ : ∃ W1, W1 = W0.drewN nq := ⟨_, rfl⟩
    have HB1 : Hid (Below w.heap.size w W1) := by rw [hW1]; exact below_drewN HB0.out _
    have p0 : W1.cell? ⟨Br, 0, none⟩ = some (.slice ap N cp) := by rw [hW1]; exact q0
    have s0 : W1.cell? ⟨w.heap.size, 0, none⟩ = some (.int .i64 f) := by rw [hW1]; exact r0
    have s1 : W1.cell? ⟨w.heap.size, 1, none⟩ = some (.int .i64 t) := by rw [hW1]; exact r1
    have HP : Hid (∀ V, Below W1.heap.size W1 V → V.cell? ⟨Br, 0, none⟩ = some (.slice ap N cp) ∧ V.cell? ⟨w.heap.size, 1, none⟩ = some (.int .i64 t) ∧ Lies .i64 V ap P) := fun V hV => ⟨cell_below p0 hV, cell_below s1 hV, Lies.below (Lies.below HL.out.1 HB1.out) hV⟩
    rw [← hW1]
    clear hW0 hW1 q0 q1 r0 r1 HB0 p0 s1 g1 g2 g3 g1' g2' g3'
    go_wp2_with fail
    go_loopw [6, 7] (fun v p wr => ∃ (j : Nat) (av : Option Addr) (cv : Nat) (m : Nat), p = .int .i64 (j : Int) ∧ v = .slice av m cv ∧ f ≤ j ∧ (j : Int) ≤ t ∧ (m : Int) = (j : Int) - f ∧ Hid (wr.ownsRow W1.heap.size 5 1 (.slice av m cv) m (((P.drop f.toNat).take m).map (Value.int .u8)) ∧ Below W1.heap.size W1 wr ∧ (∀ i : Nat, f ≤ i → i < j → 0 ≤ P.getD i 0))) (fun _ p _ => (t - intOf p).toNat)
    case atStart => exact ⟨f.toNat, none, 0, 0, by rw [show ((f.toNat : Nat) : Int) = f from by omega], rfl, by omega, by omega, by omega, by simpa using World.ownsRow_nil _ _ _ _, Below.refl _ _, fun i i1 i2 => by omega⟩
    case round =>
      obtain ⟨j, av, cv, m, rfl, rfl, j1, j2, hm, HR⟩ := hrel
      have hv := HP.out wr HR.out.2.1
      have p0 := hv.1
      have s1 := hv.2.1
      have hlw := HR.out.2.1.size
      have hlw2 := HB1.out.size
      by_cases hlt : (j : Int) < t
      · have hjn : (j : Int) < (N : Int) := by omega
        obtain ⟨g, off, rfl, hc⟩ := lies_atR hv.2.2 (i := j) (by rw [HL.out.2.1]; omega)
        have c1 := hc j (by rw [HL.out.2.1]; omega)
        have hw1 : IntKind.i64.wrap ((j : Int) + 1) = ((j + 1 : Nat) : Int) := by rw [IntKind.wrap_i64]; omega
        by_cases hneg : P.getD j 0 < 0
        · have HRf : Hid (rdB b f t = false) := by
            unfold Hid
            cases e : rdB b f t with
            | false => rfl
            | true => have := (HIf.out.mp e).2.2.2.2 j j1 hlt; omega
          have HB5 : Hid (Below w.heap.size w wr) := HB1.out.trans (HR.out.2.1.mono hlw2)
          clear hc hv
          generalize P.getD j 0 = lv at c1 hneg
          go_wp2
          go_ret2
          exact rd_no HRf.out HB5.out
        · have hpv : P.getD j 0 ≤ 255 := rd_vals HL.out.2.2.1 (by rw [HL.out.2.1]; omega) (by omega)
          have hwv : IntKind.u8.wrap (P.getD j 0) = P.getD j 0 := u8_wrap (by omega) hpv
          have hnx : (((P.drop f.toNat).take m).map (Value.int .u8)) ++ [.int .u8 (P.getD j 0)] = ((P.drop f.toNat).take (m + 1)).map (Value.int .u8) := by
            have hjl : j < P.length := by rw [HL.out.2.1]; omega
            rw [List.take_add_one, List.map_append]
            congr 1
            rw [List.getElem?_drop, show f.toNat + m = j from by omega, List.getElem?_eq_getElem hjl, List.getD_eq_getElem?_getD, List.getElem?_eq_getElem hjl]
            rfl
          have HNX : Hid ((((P.drop f.toNat).take m).map (Value.int .u8)) ++ [.int .u8 (P.getD j 0)] = ((P.drop f.toNat).take (m + 1)).map (Value.int .u8)) := hnx
          have HAll : Hid (∀ i : Nat, f ≤ i → i < j + 1 → 0 ≤ P.getD i 0) := fun i i1 i2 => by
            by_cases e : i = j
            · rw [e]; omega
            · exact HR.out.2.2 i i1 (by omega)
          have HO : Hid ((wr.alloc (.cells #[.int .u8 (P.getD j 0)] 5)).ownsRow W1.heap.size 5 1 (.slice av m cv) m (((P.drop f.toNat).take m).map (Value.int .u8))) := World.ownsRow.alloc HR.out.1 _
          have hmb : m ≤ 65536 := by omega
          clear hc hv hnx
          generalize P.getD j 0 = lv at c1 hneg hpv hwv HNX HO
          go_wp2_with (at_builtin; refine wpList_append_own_at _ rfl _ _ 36 rfl W1.heap.size 5 i0 (.int .u8 0) 1 1 Tryd.underlying36 hi hz0 hz1 hz2 rfl (by decide) _ _ _ rfl HO.out ⟨wr.heap.size, 0, none⟩ 1 1 [.int .u8 lv] rfl rfl ?c1 ?c2 ?c3 ?c4 ?c5 ?_)
          try (case c1 => exact cell_one_new _ _ _)
          try (case c2 => first | rfl | (intro x hx; simp at hx; subst hx; rfl))
          try (case c3 => unfold maxLen; omega)
          try (case c4 => omega)
          try (case c5 => first | omega | (simp; omega))
          intro v' w5 hown5 hgrow5 hn5 _
          clear hn5
          have HS : Hid (w5.ownsRow W1.heap.size 5 1 v' (m + 1) (((P.drop f.toNat).take (m + 1)).map (Value.int .u8)) ∧ Below W1.heap.size W1 w5) := ⟨by rw [← HNX.out]; first | exact hown5 | (simp only [List.map_take, List.map_drop]; exact hown5), by
            have hal : Below W1.heap.size W1 (wr.alloc (.cells #[.int .u8 lv] 5)) := HR.out.2.1.alloc HR.out.2.1.size _
            exact hal.grown hgrow5 (by have := HR.out.2.1.size; simp; omega) (fun k e => (HR.out.1.lt k e).1)⟩
          obtain ⟨a5, c5, rfl⟩ := own_shape HS.out.1
          clear hown5 hgrow5 HO
          go_wp2
          go_roundw
          case rel => exact ⟨j + 1, a5, c5, m + 1, rfl, rfl, by omega, by omega, by omega, HS.out.1, HS.out.2, HAll.out⟩
          case measure => simp [intOf]; omega
      · have hje : (j : Int) = t := by omega
        have HRt : Hid (rdB b f t = true) := HIf.out.mpr ⟨hd, k0, k1, k2, fun i i1 i2 => HR.out.2.2 i i1 (by omega)⟩
        have HLt : Hid (rdL b f t = (P.drop f.toNat).take m ∧ (rdL b f t).length = m) := by
          have h1 := rd_bytes HL.out.2.2.1 HL.out.2.2.2 HRt.out
          rw [show (t - f).toNat = m from by omega] at h1
          exact ⟨h1, by rw [h1, List.length_take, List.length_drop, HL.out.2.1]; omega⟩
        have HE : Hid (RdPost b f t w (.returned (.tuple #[.slice av m cv, .bool true])) wr) := by
          unfold Hid RdPost
          rw [HLt.out.2, HRt.out, HLt.out.1]
          exact ⟨av, cv, rfl, own_lowR HR.out.1 hlw2, HB1.out.trans (HR.out.2.1.mono hlw2)⟩
        clear hv
        go_wp2
        go_ret2
        exact HE.out
  · have HR : Hid (rdB b f t = false) := by
      unfold Hid
      cases e : rdB b f t with
      | false => rfl
      | true => exact absurd (by have := HIf.out.mp e; exact ⟨this.1, this.2.1, this.2.2.1, this.2.2.2.1⟩) hok
    rw [hW0] at q0 q1 r0 r1 HB0
    by_cases g1 : f < 0
    · have g1' : decide (f < 0) = true := decide_eq_true g1
      go_enter Tryd.func29, Tryd.ntmps29
      go_wp2_with fail
      go_quiet (fail)
      go_wp2
      go_ret2
      exact rd_no HR.out (below_drewN HB0.out _)
    · have g1' : decide (f < 0) = false := decide_eq_false g1
      by_cases g2 : t ≤ f
      · have g2' : decide (t ≤ f) = true := decide_eq_true g2
        go_enter Tryd.func29, Tryd.ntmps29
        go_wp2_with fail
        go_quiet (fail)
        go_wp2
        go_ret2
        exact rd_no HR.out (below_drewN HB0.out _)
      · have g2' : decide (t ≤ f) = false := decide_eq_false g2
        by_cases g3 : (N : Int) < t
        · have g3' : decide ((N : Int) < t) = true := decide_eq_true g3
          go_enter Tryd.func29, Tryd.ntmps29
          go_wp2_with fail
          go_quiet (fail)
          go_wp2
          go_ret2
          exact rd_no HR.out (below_drewN HB0.out _)
        · have g3' : decide ((N : Int) < t) = false := decide_eq_false g3
          have hd : b.dr = true := by
            cases e : b.dr with
            | true => rfl
            | false => exact absurd ⟨e, by omega, by omega, by omega⟩ hok
          rw [hd] at q1
          go_enter Tryd.func29, Tryd.ntmps29
          go_wp2_with fail
          go_quiet (fail)
          go_wp2
          go_ret2
          exact rd_no HR.out (below_drewN HB0.out _)

end Go.Proofs.YthkphihgdklbbaaDoor.C
