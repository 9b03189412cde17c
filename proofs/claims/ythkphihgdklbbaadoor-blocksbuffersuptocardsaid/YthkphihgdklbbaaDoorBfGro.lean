import Derived.Test.YthkphihgdklbbaaDoorBfTak
import Derived.Test.YthkphihgdklbbaaDoorBfClb
import Derived.Test.YthkphihgdklbbaaDoorBkGrn
import Derived.Lib.SliceRun
namespace Go.Proofs.YthkphihgdklbbaaDoor.C
open Go.RowKit Go.Shelf
attribute [local go_sem] Oper.semAt_some
set_option linter.unusedVariables false

/-- What grown answers. -/
def GrR (b : Bf) (at' : Int) (zs : List Int) (u : List Sp) (n er : Int) : Prop :=
  (65536 < zs.length ∧ er = 2 ∧ n = 0 ∧ u = []) ∨ (zs.length ≤ 65536 ∧ ¬ may4 at' zs ∧ er = 1 ∧ n = 0 ∧ u = []) ∨ (may4 at' zs ∧ AR b.l (at', at' + (zs.length : Int)) u n er)
def GrPost (b : Bf) (at' : Int) (zs : List Int) (w : World) (e : Ending) (w' : World) : Prop := ∃ v u n er, e = .returned (.tuple #[v, .int .i64 n, .int .i64 er]) ∧ SOwn w' w.heap.size v u ∧ GrR b at' zs u n er ∧ Below w.heap.size w w'

set_option maxRecDepth 100000 in
set_option maxHeartbeats 4000000 in
theorem grown_any (Bb : Nat) (b : Bf) (hv bv : Value) (at' : Int) (ad : Option Addr) (nd cd : Nat) (zs : List Int) (w : World) (hB : BuC w Bb b hv bv) (hnd : zs.length = nd) (hmx : nd ≤ 140737488355328) :
    Calls Tryd.prog 49 #[.pointer (some ⟨Bb, 0, none⟩), .int .i64 at', .slice ad nd cd] w (GrPost b at' zs w) := by
  have HB : Hid (BuC w Bb b hv bv) := hB
  have HN : Hid (zs.length = nd) := hnd
  have q0 : w.cell? ⟨Bb, 0, none⟩ = some hv := cell_of_row _ _ 0 _ _ _ hB.blk
  obtain ⟨ah, ch, rfl⟩ : ∃ a c, hv = .slice a b.l.length c := own_shape hB.hav
  clear hB hnd
  go_enter Tryd.func49, Tryd.ntmps49
  by_cases h1 : (65536 : Int) < (nd : Int)
  · go_wp2
    go_ret3
    exact ⟨_, [], 0, 2, rfl, SOwn.nil _ _, .inl ⟨by have := HN.out; omega, rfl, rfl, rfl⟩, Below.refl _ _⟩
  · by_cases h2 : nd = 0
    · subst h2
      go_wp2
      go_ret3
      exact ⟨_, [], 0, 1, rfl, SOwn.nil _ _, .inr (.inl ⟨by have := HN.out; omega, fun q => by have := q.2.1; have := HN.out; omega, rfl, rfl, rfl⟩), Below.refl _ _⟩
    · have h2' : ((nd : Int) == 0) = false := beq_false_of_ne (by omega)
      have h3 : IntKind.i64.wrap (65536 - (nd : Int)) = 65536 - nd := by rw [IntKind.wrap_i64]; omega
      by_cases hb : 0 ≤ at' ∧ at' ≤ 65536 - (nd : Int)
      · have hbt := btwn_v at' 0 (65536 - (nd : Int)) true (by unfold btw; simp [hb]) w
        have HM : Hid (may4 at' zs) := ⟨by have := HN.out; omega, by have := HN.out; omega, hb.1, by have := HN.out; omega⟩
        clear h2 hb
        go_wp2_with fail
        refine hbt.mono ?_
        rintro e w1 ⟨rfl, rfl⟩
        clear hbt h3 h2'
        have hpl : ∀ V, Calls Tryd.prog 65 #[.int .i64 at', .slice ad nd cd] V fun e w' => e = .returned (.agg #[.int .i64 at', .int .i64 (at' + nd)]) ∧ Below V.heap.size V w' := fun V => places_any at' ad nd cd V ⟨HM.out.2.2.1, by have := HM.out.2.2.2; omega⟩ (by have := HM.out.1; have := HN.out; omega)
        have HAd : Hid (∀ V, Below w.heap.size w V → Calls Tryd.prog 64 #[.slice ah b.l.length ch, .agg #[.int .i64 at', .int .i64 (at' + nd)]] V (AddPost b.l (at', at' + (nd : Int)) V)) := fun V hV => add_any at' (at' + nd) ((HB.out.hav.below hV).ls (by have := HB.out.ok.set.1; omega))
        have HBe : Hid (Below w.heap.size w w.drew) := (Below.refl _ _).drew
        have q0d : w.drew.cell? ⟨Bb, 0, none⟩ = some (.slice ah b.l.length ch) := q0
        go_wp2_with fail
        go_region_held3 (fun V => V.cell? ⟨Bb, 0, none⟩ = some (.slice ah b.l.length ch))
          (first | (exact q0) | (exact q0d) | (exact q01) | (exact q02))
          (first
            | (go_at_call 65
               refine (hpl _).mono ?_
               rintro e w1 ⟨rfl, hb1⟩
               have q01 : w1.cell? ⟨Bb, 0, none⟩ = some (.slice ah b.l.length ch) := (hb1.cell (p := ⟨Bb, 0, none⟩) (World.block_lt_of_cell? w ⟨Bb, 0, none⟩ q0)).trans q0
               have HB1 : Hid (Below w.heap.size w w1) := HBe.out.trans hb1
               clear hb1)
            | (go_at_call 64
               refine (HAd.out _ HB1.out).mono ?_
               rintro e w2 ⟨v, u, n2, er, rfl, hown, har, hb2⟩
               have q02 : w2.cell? ⟨Bb, 0, none⟩ = some (.slice ah b.l.length ch) := (hb2.cell (p := ⟨Bb, 0, none⟩) (World.block_lt_of_cell? w1 ⟨Bb, 0, none⟩ q01)).trans q01
               obtain ⟨a2, c2, rfl⟩ := hown.shape
               have HB2 : Hid (Below w.heap.size w w2) := HB1.out.trans (hb2.mono HB1.out.size)
               have HO2 : Hid (SOwn w2 w.heap.size (.slice a2 u.length c2) u ∧ AR b.l (at', at' + (nd : Int)) u n2 er) := ⟨hown.base HB1.out.size, har⟩
               clear hown har hb2))
        all_goals (
          go_wp2
          go_ret3
          exact ⟨_, u, n2, er, rfl, HO2.out.1, .inr (.inr ⟨HM.out, by rw [HN.out]; exact HO2.out.2⟩), HB2.out⟩)
      · have hbt := btwn_v at' 0 (65536 - (nd : Int)) false (by unfold btw; simp; omega) w
        have HM : Hid (¬ may4 at' zs) := fun q => hb ⟨q.2.2.1, by have := q.2.2.2; have := HN.out; omega⟩
        clear h2 hb
        go_wp2_with fail
        refine hbt.mono ?_
        rintro e w1 ⟨rfl, rfl⟩
        clear hbt h3 h2'
        go_wp2
        go_ret3
        exact ⟨_, [], 0, 1, rfl, SOwn.nil _ _, .inr (.inl ⟨by have := HN.out; omega, HM.out, rfl, rfl, rfl⟩), Below.refl _ _⟩

end Go.Proofs.YthkphihgdklbbaaDoor.C

namespace Go.Proofs.YthkphihgdklbbaaDoor.C
open Go.RowKit Go.Shelf
attribute [local go_sem] Oper.semAt_some
set_option linter.unusedVariables false

/-! ## A buffer, and whose blocks it is -/
structure Bu (w : World) (Bb : Nat) (F : Nat → Prop) (b : Bf) : Prop where
  ex : ∃ hv bv, BuC w Bb b hv bv ∧ (∀ k, hv.ownBlock = some k → F k) ∧ (∀ k, bv.ownBlock = some k → F k)
  self : F Bb
theorem Bu.lt {w : World} {Bb : Nat} {F : Nat → Prop} {b : Bf} (h : Bu w Bb F b) : Bb < w.heap.size := by
  obtain ⟨hv, bv, h1, _⟩ := h.ex; exact (Array.getElem?_eq_some_iff.1 h1.blk).1
theorem Bu.ok {w : World} {Bb : Nat} {F : Nat → Prop} {b : Bf} (h : Bu w Bb F b) : b.Ok := by
  obtain ⟨hv, bv, h1, _⟩ := h.ex; exact h1.ok
theorem Bu.mono {w : World} {Bb : Nat} {F G : Nat → Prop} {b : Bf} (h : Bu w Bb F b) (hf : ∀ k, F k → G k) : Bu w Bb G b := by
  obtain ⟨hv, bv, h1, h2, h3⟩ := h.ex
  exact ⟨⟨hv, bv, h1, fun k hk => hf k (h2 k hk), fun k hk => hf k (h3 k hk)⟩, hf _ h.self⟩
theorem Bu.same {w w' : World} {Bb : Nat} {F : Nat → Prop} {b : Bf} (h : Bu w Bb F b) (hs : ∀ k, F k → k < w.heap.size → w'.heap[k]? = w.heap[k]?) : Bu w' Bb F b := by
  obtain ⟨hv, bv, h1, h2, h3⟩ := h.ex
  exact ⟨⟨hv, bv, ⟨(hs Bb h.self h.lt).trans h1.blk, own_same0 h1.hav (fun k hk => hs k (h2 k hk) (h1.hav.lt k hk).2), own_same0 h1.byt (fun k hk => hs k (h3 k hk) (h1.byt.lt k hk).2), h1.ok⟩, h2, h3⟩, h.self⟩
theorem Bu.below {w w' : World} {Bb : Nat} {F : Nat → Prop} {b : Bf} (h : Bu w Bb F b) (hb : Below w.heap.size w w') : Bu w' Bb F b := h.same (fun k _ hk => hb.block k hk)
/-- Nothing but those blocks has changed. -/
structure Kf (F : Nat → Prop) (w w' : World) : Prop where
  ox : Ox w w'
  size : w.heap.size ≤ w'.heap.size
  same : ∀ k, k < w.heap.size → ¬ F k → w'.heap[k]? = w.heap[k]?
theorem Kf.of_below {F : Nat → Prop} {w w' : World} (h : Below w.heap.size w w') : Kf F w w' := ⟨.bel h, h.size, fun k hk _ => h.block k hk⟩
theorem Kf.bel {F : Nat → Prop} {w w' : World} {B : Nat} (h : Kf F w w') (hB : B ≤ w.heap.size) (hf : ∀ k, F k → B ≤ k) : Below B w w' := ⟨h.ox.1, h.ox.2.1, h.ox.2.2, h.size, fun k hk => h.same k (by omega) (fun q => by have := hf k q; omega)⟩
theorem Bu.cut {w : World} {Bb : Nat} {F : Nat → Prop} {b : Bf} (h : Bu w Bb F b) : Bu w Bb (fun k => F k ∧ k < w.heap.size) b := by
  obtain ⟨hv, bv, h1, h2, h3⟩ := h.ex
  exact ⟨⟨hv, bv, h1, fun k hk => ⟨h2 k hk, (h1.hav.lt k hk).2⟩, fun k hk => ⟨h3 k hk, (h1.byt.lt k hk).2⟩⟩, h.self, h.lt⟩
theorem Kf.trans {F : Nat → Prop} {a b c : World} (h : Kf F a b) (h' : Kf (fun k => F k ∨ a.heap.size ≤ k) b c) : Kf F a c := ⟨h.ox.trans h'.ox, Nat.le_trans h.size h'.size, fun k hk hn => (h'.same k (Nat.lt_of_lt_of_le hk h.size) (fun q => q.elim hn (by omega))).trans (h.same k hk hn)⟩

/-- What Put answers, and what it makes of a buffer. -/
def PutR (b : Bf) (at' : Int) (zs : List Int) (fr cl er : Int) (b' : Bf) : Prop :=
  (65536 < zs.length ∧ er = 2 ∧ fr = 0 ∧ cl = 0 ∧ b' = b) ∨ (zs.length ≤ 65536 ∧ ¬ may4 at' zs ∧ er = 1 ∧ fr = 0 ∧ cl = 0 ∧ b' = b) ∨
  (may4 at' zs ∧ ∃ u, Uni b.l [(at', at' + (zs.length : Int))] u ∧ ((u.length ≤ 2000 ∧ er = 0 ∧ fr = siz u - siz b.l ∧ cl = clN b at' zs ∧ b' = putB b at' zs u) ∨ (2000 < u.length ∧ er = 3 ∧ fr = 0 ∧ cl = 0 ∧ b' = b)))
theorem PutR.uniq {b b1 b2 : Bf} {at' : Int} {zs : List Int} {f1 c1 e1 f2 c2 e2 : Int} (h : PutR b at' zs f1 c1 e1 b1) (h' : PutR b at' zs f2 c2 e2 b2) : f1 = f2 ∧ c1 = c2 ∧ e1 = e2 ∧ b1 = b2 := by
  rcases h with ⟨a1, rfl, rfl, rfl, rfl⟩ | ⟨a0, a1, rfl, rfl, rfl, rfl⟩ | ⟨a1, u, hu, a2⟩ <;> rcases h' with ⟨d1, rfl, rfl, rfl, rfl⟩ | ⟨d0, d1, rfl, rfl, rfl, rfl⟩ | ⟨d1, u', hu', d2⟩
  · exact ⟨rfl, rfl, rfl, rfl⟩
  · omega
  · have := d1.1; omega
  · omega
  · exact ⟨rfl, rfl, rfl, rfl⟩
  · exact absurd d1 a1
  · have := a1.1; omega
  · exact absurd a1 d1
  · obtain rfl := hu.uniq hu'
    rcases a2 with ⟨a3, rfl, rfl, rfl, rfl⟩ | ⟨a3, rfl, rfl, rfl, rfl⟩ <;> rcases d2 with ⟨d3, rfl, rfl, rfl, rfl⟩ | ⟨d3, rfl, rfl, rfl, rfl⟩
    · exact ⟨rfl, rfl, rfl, rfl⟩
    · omega
    · omega
    · exact ⟨rfl, rfl, rfl, rfl⟩
theorem may_set {at' : Int} {zs : List Int} (h : may4 at' zs) : IsSet [(at', at' + (zs.length : Int))] := by
  obtain ⟨h1, h2, h3, h4⟩ := h
  refine ⟨by simp, ?_⟩
  simp only [Rt]
  exact ⟨h3, by omega, by omega, trivial⟩
theorem GrR.ok {b : Bf} {at' : Int} {zs : List Int} {u : List Sp} {n er : Int} (h : GrR b at' zs u n er) (hb : b.Ok) (he : er = 0) : may4 at' zs ∧ Uni b.l [(at', at' + (zs.length : Int))] u ∧ u.length ≤ 2000 ∧ n = siz u - siz b.l := by
  rcases h with ⟨_, h, _⟩ | ⟨_, _, h, _⟩ | ⟨hm, hu, hn⟩
  · omega
  · omega
  · rcases hn with ⟨_, hn⟩ | ⟨h, _⟩
    · rcases hu with ⟨_, h, _⟩ | ⟨_, _, U, h1, ⟨h2, _, rfl⟩ | ⟨_, h, _⟩⟩
      · omega
      · exact ⟨hm, h1, h2, hn⟩
      · omega
    · exact absurd he h
theorem GrR.no {b : Bf} {at' : Int} {zs : List Int} {u : List Sp} {n er : Int} (h : GrR b at' zs u n er) (hb : b.Ok) (he : er ≠ 0) : PutR b at' zs 0 0 er b := by
  rcases h with ⟨h1, rfl, _⟩ | ⟨h0, h1, rfl, _⟩ | ⟨hm, hu, hn⟩
  · exact .inl ⟨h1, rfl, rfl, rfl, rfl⟩
  · exact .inr (.inl ⟨h0, h1, rfl, rfl, rfl, rfl⟩)
  · refine .inr (.inr ⟨hm, ?_⟩)
    rcases hu with ⟨h, _⟩ | ⟨_, _, U, h1, ⟨_, h, _⟩ | ⟨h2, rfl, _⟩⟩
    · exact absurd ⟨hb.set, may_set hm⟩ h
    · exact absurd h he
    · exact ⟨U, h1, .inr ⟨h2, rfl, rfl, rfl, rfl⟩⟩

def LkPost (b : Bf) (at' : Int) (zs : List Int) (w : World) (e : Ending) (w' : World) : Prop := ∃ fr cl er b', e = .returned (.tuple #[.int .i64 fr, .int .i64 cl, .int .i64 er]) ∧ PutR b at' zs fr cl er b' ∧ Below w.heap.size w w'
def PtPost (b : Bf) (Bb : Nat) (F : Nat → Prop) (at' : Int) (zs : List Int) (w : World) (e : Ending) (w' : World) : Prop := ∃ fr cl er b', e = .returned (.tuple #[.int .i64 fr, .int .i64 cl, .int .i64 er]) ∧ PutR b at' zs fr cl er b' ∧ Bu w' Bb (fun k => F k ∨ w.heap.size ≤ k) b' ∧ Kf F w w'

set_option maxRecDepth 100000 in
set_option maxHeartbeats 4000000 in
theorem look_any (Bb : Nat) (b : Bf) (F : Nat → Prop) (at' : Int) (ad : Option Addr) (nd cd : Nat) (zs : List Int) (w : World) (hB : Bu w Bb F b) (hnd : zs.length = nd) (hmx : nd ≤ 140737488355328) (hz : Lies .u8 w ad zs) :
    Calls Tryd.prog 23 #[.pointer (some ⟨Bb, 0, none⟩), .int .i64 at', .slice ad nd cd] w (LkPost b at' zs w) := by
  obtain ⟨hv, bv, hC, _, _⟩ := hB.ex
  have hgr := grown_any Bb b hv bv at' ad nd cd zs w hC hnd hmx
  have HOk : Hid b.Ok := hC.ok
  have HCl : Hid (may4 at' zs → ∀ V, Below w.heap.size w V → Calls Tryd.prog 50 #[.pointer (some ⟨Bb, 0, none⟩), .int .i64 at', .slice ad nd cd] V fun e w' => e = .returned (.int .i64 (clN b at' zs)) ∧ Below V.heap.size V w') := fun hm V hV => callsIn_wide.1 (clash_any Bb b hv bv at' ad nd cd zs V ⟨(hV.block _ (Array.getElem?_eq_some_iff.1 hC.blk).1).trans hC.blk, hC.hav.below hV, own_same0 hC.byt (fun g hg => hV.block g (hC.byt.lt g hg).2), hC.ok⟩ hm hnd (hz.below hV) 9 (by decide))
  clear hB hC hz hnd
  go_enter Tryd.func23, Tryd.ntmps23
  go_wp2_with fail
  refine hgr.mono ?_
  rintro e w1 ⟨v, u, n1, er, rfl, hown, hgR, hb1⟩
  obtain ⟨a1, c1, rfl⟩ := hown.shape
  have HG : Hid (GrR b at' zs u n1 er) := hgR
  have HB1 : Hid (Below w.heap.size w w1) := hb1
  clear hgr hown hgR hb1
  by_cases he : er = 0
  · subst he
    have HG2 : Hid (may4 at' zs ∧ Uni b.l [(at', at' + (zs.length : Int))] u ∧ u.length ≤ 2000 ∧ n1 = siz u - siz b.l) := HG.out.ok HOk.out rfl
    clear HG
    have hcl := HCl.out HG2.out.1 w1 HB1.out
    clear HCl
    go_wp2_with fail
    refine hcl.mono ?_
    rintro e w2 ⟨rfl, hb2⟩
    have HB2 : Hid (Below w.heap.size w w2) := HB1.out.trans (hb2.mono HB1.out.size)
    clear hcl hb2
    go_wp2
    go_ret3
    exact ⟨n1, _, 0, _, rfl, .inr (.inr ⟨HG2.out.1, u, HG2.out.2.1, .inl ⟨HG2.out.2.2.1, rfl, HG2.out.2.2.2, rfl, rfl⟩⟩), HB2.out⟩
  · have HN : Hid (PutR b at' zs 0 0 er b) := HG.out.no HOk.out he
    clear HG HCl
    go_wp2
    go_ret3
    exact ⟨0, 0, er, b, rfl, HN.out, HB1.out⟩

set_option maxRecDepth 100000 in
set_option maxHeartbeats 4000000 in
theorem put_any (Bb : Nat) (b : Bf) (F : Nat → Prop) (at' : Int) (ad : Option Addr) (nd cd : Nat) (zs : List Int) (w : World) (hB : Bu w Bb F b) (hzb : Bytey zs) (hnd : zs.length = nd) (hmx : nd ≤ 140737488355328) (hdc : nd ≤ cd) (hdm : cd ≤ 9223372036854775807) (hz : Lies .u8 w ad zs) (hsep : ∀ g, (Value.slice ad nd cd).ownBlock = some g → ¬ F g) :
    Calls Tryd.prog 19 #[.pointer (some ⟨Bb, 0, none⟩), .int .i64 at', .slice ad nd cd] w (PtPost b Bb F at' zs w) := by
  obtain ⟨hv, bv, hC, hF1, hF2⟩ := hB.ex
  have hgr := grown_any Bb b hv bv at' ad nd cd zs w hC hnd hmx
  have HOk : Hid b.Ok := hC.ok
  have HU : Hid (Bu w Bb F b) := hB
  have HBC : Hid (∀ V, Below w.heap.size w V → BuC V Bb b hv bv) := fun V hV => ⟨(hV.block _ (Array.getElem?_eq_some_iff.1 hC.blk).1).trans hC.blk, hC.hav.below hV, own_same0 hC.byt (fun g hg => hV.block g (hC.byt.lt g hg).2), hC.ok⟩
  have HCl : Hid (may4 at' zs → ∀ V, Below w.heap.size w V → Calls Tryd.prog 50 #[.pointer (some ⟨Bb, 0, none⟩), .int .i64 at', .slice ad nd cd] V fun e w' => e = .returned (.int .i64 (clN b at' zs)) ∧ Below V.heap.size V w') := fun hm V hV => callsIn_wide.1 (clash_any Bb b hv bv at' ad nd cd zs V (HBC.out V hV) hm hnd (hz.below hV) 9 (by decide))
  have HTk : Hid (may4 at' zs → ∀ V, Below w.heap.size w V → Calls Tryd.prog 51 #[.pointer (some ⟨Bb, 0, none⟩), .int .i64 at', .slice ad nd cd] V (TkPost b Bb hv bv at' zs V)) := fun hm V hV => callsIn_wide.1 (take_any Bb b hv bv at' ad nd cd zs V (HBC.out V hV) hm hnd hdc hdm (hz.below hV) (fun g hg => ⟨fun e => hsep g hg (hF2 g e), fun e => hsep g hg (by rw [e]; exact hB.self)⟩) 9 (by decide))
  have HFF : Hid ((∀ k, bv.ownBlock = some k → F k) ∧ F Bb ∧ Bytey zs ∧ Bb < w.heap.size) := ⟨hF2, hB.self, hzb, hB.lt⟩
  clear hB hC hz hnd hF1 hF2 hsep hzb
  go_enter Tryd.func19, Tryd.ntmps19
  go_wp2_with fail
  refine hgr.mono ?_
  rintro e w1 ⟨v, u, n1, er, rfl, hown, hgR, hb1⟩
  obtain ⟨a1, c1, rfl⟩ := hown.shape
  have HG : Hid (GrR b at' zs u n1 er) := hgR
  have HB1 : Hid (Below w.heap.size w w1) := hb1
  have HO1 : Hid (SOwn w1 w.heap.size (.slice a1 u.length c1) u) := hown
  clear hgr hown hgR hb1
  by_cases he : er = 0
  · subst he
    have HG2 : Hid (may4 at' zs ∧ Uni b.l [(at', at' + (zs.length : Int))] u ∧ u.length ≤ 2000 ∧ n1 = siz u - siz b.l) := HG.out.ok HOk.out rfl
    clear HG
    have hcl := HCl.out HG2.out.1 w1 HB1.out
    clear HCl
    go_wp2_with fail
    refine hcl.mono ?_
    rintro e w2 ⟨rfl, hb2⟩
    have HB2 : Hid (Below w.heap.size w w2) := HB1.out.trans (hb2.mono HB1.out.size)
    have HO2 : Hid (SOwn w2 w.heap.size (.slice a1 u.length c1) u) := HO1.out.below hb2
    clear hcl hb2 HO1 HB1
    have htk := HTk.out HG2.out.1 w2 HB2.out
    clear HTk
    go_wp2_with fail
    refine htk.mono ?_
    rintro e w3 ⟨⟨v3, rfl⟩, hox3, hs3, hk3, bv', hbb, hby, hfr⟩
    have e1 : w3.frozen? ⟨Bb, 0, none⟩ = false := frozen_of_row _ _ 0 _ _ hbb
    have e0 : w3.cell? ⟨Bb, 0, none⟩ = some hv := cell_of_row _ _ 0 _ _ _ hbb
    have HK : Hid (Kf F w (w3.setCell ⟨Bb, 0, none⟩ (.slice a1 u.length c1))) := by
      have hb2 := HB2.out
      have hf := HFF.out
      refine ⟨(Ox.bel hb2).trans hox3, by have := hb2.size; simp [World.setCell]; omega, fun k hk hn => ?_⟩
      have hkB : k ≠ Bb := fun e => hn (by rw [e]; exact hf.2.1)
      exact (Below.heap_setCell _ _ _ _ hkB).trans ((hk3 k (Nat.lt_of_lt_of_le hk hb2.size) hkB (fun e => hn (hf.1 k e))).trans (hb2.block k hk))
    have HBu : Hid (Bu (w3.setCell ⟨Bb, 0, none⟩ (.slice a1 u.length c1)) Bb (fun k => F k ∨ w.heap.size ≤ k) (putB b at' zs u)) := by
      have hb2 := HB2.out
      have hf := HFF.out
      have hg := HG2.out
      have hlo := HO2.out.lt
      have hBC := HBC.out w2 hb2
      refine ⟨⟨.slice a1 u.length c1, bv', ⟨?_, ?_, ?_, put_ok HOk.out hf.2.2.1 hg.1 hg.2.1 hg.2.2.1⟩, fun k hk => .inr (hlo k hk).1, fun k hk => ?_⟩, .inl hf.2.1⟩
      · show _ = some (Obj.cells #[.slice a1 u.length c1, bv', .bool b.dr] 86 (0, 0))
        simp [World.setCell, Array.getElem?_modify, hbb]
      · refine own_same0 (w := w2) (own_base0 HO2.out) (fun k hk => ?_)
        have hkl := hlo k hk
        have hkB : k ≠ Bb := by have := hf.2.2.2; omega
        refine (Below.heap_setCell _ _ _ _ hkB).trans (hk3 k hkl.2 hkB (fun e => ?_))
        have := (hBC.byt.lt k e).2
        obtain ⟨_, ⟨h9, _⟩ | ⟨g', cap, cur, h9, _, hh, _⟩⟩ := hBC.byt
        · rw [h9] at e; cases e
        · rw [h9] at e; cases e
          obtain ⟨_, ⟨h8, _⟩ | ⟨g8, cap8, cur8, h8, _, hh8, _⟩⟩ := HO2.out
          · rw [h8] at hk; cases hk
          · rw [h8] at hk; cases hk; rw [hh] at hh8; cases hh8
      · refine own_same0 hby (fun k hk => Below.heap_setCell _ _ _ _ (fun e => ?_))
        subst e
        obtain ⟨_, ⟨h9, _⟩ | ⟨g', cap, cur, h9, _, hh, _⟩⟩ := hby
        · rw [h9] at hk; cases hk
        · rw [h9] at hk; cases hk; rw [hbb] at hh; cases hh
      · rcases hfr k hk with h | h
        · exact .inl (hf.1 k h)
        · exact .inr (by have := hb2.size; omega)
    clear htk hk3 hbb hby hfr hs3 hox3 HB2 HO2 HBC
    go_wp2
    go_ret3
    exact ⟨n1, _, 0, _, rfl, .inr (.inr ⟨HG2.out.1, u, HG2.out.2.1, .inl ⟨HG2.out.2.2.1, rfl, HG2.out.2.2.2, rfl, rfl⟩⟩), HBu.out, HK.out⟩
  · have HN : Hid (PutR b at' zs 0 0 er b) := HG.out.no HOk.out he
    clear HG HCl HTk HBC
    go_wp2
    go_ret3
    exact ⟨0, 0, er, b, rfl, HN.out, (HU.out.below HB1.out).mono (fun _ h => .inl h), .of_below HB1.out⟩

end Go.Proofs.YthkphihgdklbbaaDoor.C
