import Derived.Test.YtllhbhogfffedaaGreatDoorJkTn
import Derived.Test.YtllhbhogfffedaaGreatDoorJkSs
import Derived.Test.YtllhbhogfffedaaGreatDoorRcFme
import Derived.Test.YtllhbhogfffedaaGreatDoorRcScn
import Derived.Test.YtllhbhogfffedaaGreatDoorJnAwk
namespace Go.Proofs.YtllhbhogfffedaaGreatDoor.K
open Go.RowKit
set_option linter.unusedVariables false
set_option linter.unusedSimpArgs false

/-- What Rewrite leaves and answers, as lists. -/
def rwA (D : Dk) (J : Jl) (bs : List Int) : Dk × Jl × Nat := if (tnX D J bs).2.2 = 0 then ((tnX D J bs).1, ⟨bs.length, 0, (tnX D J bs).2.1.dead⟩, 0) else tnX D J bs
def rwX (D : Dk) (J : Jl) (l : List Rc) : Dk × Jl × Nat := if frE J l = 0 then rwA D J (l.flatMap frB) else (D, J, frE J l)
/-- A call's state since V, which had it since w, is its state since w. -/
theorem Wj.comp {w V U : World} {d x j : Nat} {F F' : Nat → Prop} {D' : Dk} {J' : Jl} (h : Kd (fun k => F k ∨ k = j) w V) (hF : ∀ k, F' k → F k ∨ w.heap.size ≤ k) (h' : Wj V U d x j F' D' J') : Wj w U d x j F D' J' := by
  obtain ⟨G, h1, h2⟩ := h'.foot
  have hs := h.size
  exact ⟨⟨G, h1, fun k q => ⟨(h2 k q).1.elim (hF k) (fun q => .inr (by omega)), (h2 k q).2⟩⟩, h'.jb, Kd.next h h'.kd (fun k q => q.elim (fun q => (hF k q).elim (fun q => .inl (.inl q)) .inr) (fun q => .inl (.inr q)))⟩
theorem W0.later {w V : World} {d x j : Nat} {F : Nat → Prop} {aD aF aN : Addr} (h : W0 w d x j F aD aF aN) (hb : Below w.heap.size w V) : W0 V d x j (fc F w) aD aF aN := by
  have h' := h.s.kd (Kd.below (F := F) hb)
  exact ⟨⟨h'.er, ⟨fun q => h.s.nf.1 q.1, fun q => h.s.nf.2.1 q.1, fun q => h.s.nf.2.2 q.1⟩, h.s.df, h.s.dn, h.s.fn, ⟨h'.cD.1, fun q => h'.cD.2 q.1⟩, ⟨h'.cF.1, fun q => h'.cF.2 q.1⟩, ⟨h'.cN.1, fun q => h'.cN.2 q.1⟩⟩, bel_cell hb h.c, fun q => h.nd q.1, fun q => h.nj q.1, h.dj, Nat.lt_of_lt_of_le h.jl hb.size, h.js⟩

set_option maxHeartbeats 16000000 in
set_option maxRecDepth 100000 in
/-- REWRITE, of any disk. -/
theorem jrewrite_any (w : World) (d x j : Nat) (F : Nat → Prop) (D : Dk) (J : Jl) (B : Nat) (aD aF aN : Addr) (l : List Rc) (a : Option Addr) (n c : Nat) (h : Dm w x F D) (hk : D.Ok B) (hB : B ≤ 549755813888) (h0 : W0 w d x j F aD aF aN) (hj : Jb w j d J) (hT : Tab6 w) (hl : l.length = n) (hn : n ≤ 1048576) (ha : RLin w a l) (hd : ∀ r ∈ l, Bytey r.data) (hlb : frE J l = 0 → (l.flatMap frB).length ≤ 137438953472) :
    Calls Tryz.prog 18 #[.pointer (some ⟨j, 0, none⟩), .slice a n c] w fun e w' => WrP w d x j F (rwX D J l) aD aF aN e w' := by
  obtain ⟨w0, hw0⟩ : ∃ V, w.alloc (.cells #[.pointer (some ⟨j, 0, none⟩)] 29) = V := ⟨_, rfl⟩
  have hb0 : Below w.heap.size w w0 := by rw [← hw0]; exact (Below.refl _ _).alloc (Nat.le_refl _) _
  have hs0 : w0.heap.size = w.heap.size + 1 := by rw [← hw0]; simp
  have cb0 : w0.cell? ⟨w.heap.size, 0, none⟩ = some (.pointer (some ⟨j, 0, none⟩)) := by
    have := cell_of_row _ w.heap.size 0 _ _ _ (heap_new6 w (.cells #[.pointer (some ⟨j, 0, none⟩)] 29))
    rw [hw0] at this
    exact this
  have hj0 : Jb w0 j d J := (hb0.block _ hj.lt).trans hj
  have HFR := jframes_any w0 j d J l a n c aD aF aN (hT.below hb0 (tab6_pos hT)) hl hn (ha.below hb0) hd hj0
  unfold FrP at HFR
  obtain ⟨R, hR⟩ : ∃ R, rwX D J l = R := ⟨_, rfl⟩
  rw [hR]
  unfold rwX at hR
  have hjl := hj.lt
  have H0 : Hid (W0 w d x j F aD aF aN ∧ D.Ok B ∧ Wj w w d x j F D J ∧ Dm w x (fc F w) D ∧ Jb w j d J ∧ Below w.heap.size w w0) := ⟨h0, hk, Wj.start h hj, h.fc, hj, hb0⟩
  have hby : frE J l = 0 → Bytey (l.flatMap frB) := fun q => by
    have := (frE_live q).2
    refine fr_bytey (fun r hr => ⟨?_, hd r hr⟩)
    unfold fmR at this
    by_cases hm : l.all mayB6 = true
    · exact List.all_eq_true.mp hm r hr
    · rw [if_neg hm] at this; have := congrArg Prod.snd this; simp at this
  clear h hk h0 hj hT hl ha hd hb0 hj0
  by_cases hfe : frE J l = 0
  case neg =>
    rw [if_neg hfe] at hR
    have HR : Hid (R = (D, J, frE J l)) := hR.symm
    have hgt : 3 < frE J l := by
      unfold frE at hfe ⊢
      split
      · omega
      · rename_i q
        rw [if_neg q] at hfe
        split
        · rename_i q2; rw [if_pos q2] at hfe; exact absurd rfl hfe
        · omega
    rw [evJ_e hgt] at HFR
    have HFE : Hid (frE J l ≠ 0 ∧ evJ aD aF aN (frE J l) = .iface 55 (.int .i64 (frE J l : Nat))) := ⟨hfe, evJ_e hgt⟩
    generalize frE J l = fe at *
    clear hR hby hfe hgt hlb
    go_enter Tryz.func18, Tryz.ntmps18
    go_wp2_with fail
    refine HFR.mono ?_
    clear HFR hw0
    rintro e V1 ⟨v1, rfl, -, hv1, hb1⟩
    have hv1' := hv1 HFE.out.1
    subst hv1'
    have HB1 : Hid (Below w.heap.size w V1) := H0.out.2.2.2.2.2.trans (hb1.mono (by omega))
    clear hv1 hb1
    go_wp2
    go_ret
    exact ⟨by rw [HR.out]; exact (congrArg Ending.returned HFE.out.2).symm, by rw [HR.out]; exact H0.out.2.2.1.below (HB1.out.alloc HB1.out.size _)⟩
  case pos =>
    rw [if_pos hfe] at hR
    have hlb := hlb hfe
    have HBY : Hid (Bytey (l.flatMap frB) ∧ J.dead = false) := ⟨hby hfe, (frE_live hfe).1⟩
    rw [hfe, evJ_nil] at HFR
    simp only [true_implies, ne_eq, not_true, false_implies, true_and] at HFR
    clear hby hfe
    go_enter Tryz.func18, Tryz.ntmps18
    go_wp2_with fail
    refine HFR.mono ?_
    clear HFR hw0
    rintro e V1 ⟨v1, rfl, ho1, hb1⟩
    have hw1 := hb1.size
    have hbw1 : Below w.heap.size w V1 := H0.out.2.2.2.2.2.trans (hb1.mono (by omega))
    obtain ⟨bs, hbs⟩ : ∃ bs, l.flatMap frB = bs := ⟨_, rfl⟩
    rw [hbs] at ho1 hlb hR HBY
    obtain ⟨m, hm⟩ : ∃ m, bs.length = m := ⟨_, rfl⟩
    have HM : Hid (bs.length = m) := hm
    rw [hm] at ho1 hlb
    unfold rwA at hR
    rw [hm] at hR
    obtain ⟨a1, c1, hv1⟩ := d_shape ho1
    subst hv1
    have cb1 := bel_cell hb1 cb0
    have HO1 : Hid (V1.ownsRow w0.heap.size 5 1 (.slice a1 m c1) m (bs.map (Value.int .u8)) ∧ Below w.heap.size w V1) := ⟨ho1, hbw1⟩
    clear ho1 hb1 hbs hm hbw1 cb0
    obtain ⟨V2, hV2⟩ : ∃ V, V1.alloc (.cells #[.slice a1 m c1] 35) = V := ⟨_, rfl⟩
    have hb2 : Below V1.heap.size V1 V2 := by rw [← hV2]; exact (Below.refl _ _).alloc (Nat.le_refl _) _
    have hs2 : V2.heap.size = V1.heap.size + 1 := by rw [← hV2]; simp
    have cc2 : V2.cell? ⟨V1.heap.size, 0, none⟩ = some (.slice a1 m c1) := by
      have := cell_of_row _ V1.heap.size 0 _ _ _ (heap_new6 V1 (.cells #[.slice a1 m c1] 35))
      rw [hV2] at this
      exact this
    have cb2 := bel_cell hb2 cb1
    obtain ⟨V3, hV3⟩ : ∃ V, V2.alloc (.cells #[.func (.func 48) #[] #[.pointer (some ⟨w.heap.size, 0, none⟩), .pointer (some ⟨V1.heap.size, 0, none⟩)], .func (.func 49) #[] #[.pointer (some ⟨w.heap.size, 0, none⟩)], .func (.func 50) #[] #[.pointer (some ⟨w.heap.size, 0, none⟩)]] 109) = V := ⟨_, rfl⟩
    have hb3 : Below V2.heap.size V2 V3 := by rw [← hV3]; exact (Below.refl _ _).alloc (Nat.le_refl _) _
    have hs3 : V3.heap.size = V1.heap.size + 2 := by rw [← hV3]; simp [hs2]
    have hg3 := heap_new6 V2 (.cells #[.func (.func 48) #[] #[.pointer (some ⟨w.heap.size, 0, none⟩), .pointer (some ⟨V1.heap.size, 0, none⟩)], .func (.func 49) #[] #[.pointer (some ⟨w.heap.size, 0, none⟩)], .func (.func 50) #[] #[.pointer (some ⟨w.heap.size, 0, none⟩)]] 109)
    rw [hV3, hs2] at hg3
    have hb13 : Below V1.heap.size V1 V3 := hb2.trans (hb3.mono (by omega))
    have hbw3 : Below w.heap.size w V3 := HO1.out.2.trans (hb13.mono HO1.out.2.size)
    obtain ⟨hz1, hnn1, hcc1, hll1⟩ := lies_own (own_low7 HO1.out.1 (Nat.zero_le _))
    have HIT := inTurn_any V3 d x j w.heap.size V1.heap.size (V1.heap.size + 1) (fc F w) D J B aD aF aN a1 m c1 bs (H0.out.2.2.2.1.below hbw3) (fun k q => Nat.lt_of_lt_of_le q.2 hbw3.size) ((hbw3.block _ hjl).trans H0.out.2.2.2.2.1) (H0.out.1.later hbw3) H0.out.2.1 hB (bel_cell hb3 cb2) (bel_cell hb3 cc2) (fun q => by have := q.2; omega) (fun q => by have := q.2; omega) (by omega) (fun q => by have := q.2; omega) (by omega)
      HM.out (lies_bel hb13 hz1) HBY.out.1 (fun b off hne e q => by
        have hb := (World.ownsRow.lt HO1.out.1 b (by rw [e]; rfl)).1
        have := q.2
        omega) hnn1 hlb (cell_of_row _ _ 0 _ _ _ hg3) (cell_of_row _ _ 1 _ _ _ hg3) (cell_of_row _ _ 2 _ _ _ hg3)
    have hrr := tn_r D J bs
    obtain ⟨⟨D4, J4, r4⟩, hR4⟩ : ∃ R : Dk × Jl × Nat, tnX D J bs = R := ⟨_, rfl⟩
    unfold WrP at HIT
    rw [hR4] at HIT hR hrr
    simp only at HIT hR hrr
    have H3 : Hid (Below w.heap.size w V3 ∧ V3.cell? ⟨w.heap.size, 0, none⟩ = some (.pointer (some ⟨j, 0, none⟩)) ∧ V3.cell? ⟨V1.heap.size, 0, none⟩ = some (.slice a1 m c1)) := ⟨hbw3, bel_cell hb3 cb2, bel_cell hb3 cc2⟩
    clear hz1 hnn1 hcc1 hll1 hg3 hb2 hb3 hb13 hbw3 cc2 hR4
    go_wp2_with fail
    refine HIT.mono ?_
    clear HIT hV2 hV3 cb1 cb2
    rintro e U ⟨rfl, hWU⟩
    have HWU : Hid (Wj w U d x j F D4 J4) := Wj.comp (Kd.below H3.out.1) (fun k q => .inl q.1) hWU
    have u0 : U.cell? ⟨w.heap.size, 0, none⟩ = some (.pointer (some ⟨j, 0, none⟩)) := hWU.kd.cell H3.out.2.1 (fun q => q.elim (fun q => by have := q.2; omega) (fun q => by omega))
    have u1 : U.cell? ⟨V1.heap.size, 0, none⟩ = some (.slice a1 m c1) := hWU.kd.cell H3.out.2.2 (fun q => q.elim (fun q => by have := q.2; omega) (fun q => by omega))
    clear hWU H3
    by_cases hr4 : r4 = 0
    case neg =>
      rw [if_neg hr4] at hR
      have HR : Hid (R = (D4, J4, r4)) := hR.symm
      obtain ⟨ae, hae⟩ := evD_some (aD := aD) (aF := aF) (aN := aN) hr4
      have HAE : Hid (evJ aD aF aN r4 = .iface 218 (.pointer (some ae))) := by show _ = _; rw [evJ_d hrr, hae]
      rw [HAE.out]
      clear hR hr4 hae u0 u1
      go_wp2
      go_ret
      exact ⟨by rw [HR.out]; exact (congrArg Ending.returned HAE.out).symm, by rw [HR.out]; exact HWU.out⟩
    case pos =>
      rw [if_pos hr4] at hR
      have HR : Hid (R = (D4, ⟨m, 0, J4.dead⟩, 0)) := hR.symm
      rw [hr4, evJ_nil]
      clear hR hr4 hrr
      have k1 : U.cell? ⟨j, 1, none⟩ = some (.int .i64 J4.n) := HWU.out.jb.c 1
      have k2 : U.cell? ⟨j, 2, none⟩ = some (.int .i64 J4.k) := HWU.out.jb.c 2
      have z1 := HWU.out.jb.z 1
      have z2 := HWU.out.jb.z 2
      have hne1 : w.heap.size ≠ j := by omega
      have hne2 : V1.heap.size ≠ j := by have := HO1.out.2.size; omega
      have HW7 : Hid (Wj w ((U.setCell ⟨j, 1, none⟩ (.int .i64 (m : Nat))).setCell ⟨j, 2, none⟩ (.int .i64 0)).drew d x j F D4 ⟨m, 0, J4.dead⟩) := (HWU.out.jour H0.out.1 (jb_set2 (n := 0) (jb_set1 (n := m) HWU.out.jb)) (kd_set.trans kd_set)).drew
      go_upto_region 7 with fail
      go_region_held3 (fun V => V.cell? ⟨w.heap.size, 0, none⟩ = some (.pointer (some ⟨j, 0, none⟩)) ∧ V.cell? ⟨V1.heap.size, 0, none⟩ = some (.slice a1 m c1))
        (first | exact ⟨u0, u1⟩ | exact ⟨set_cell u0 hne1, set_cell u1 hne2⟩ | exact ⟨set_cell (set_cell u0 hne1) hne1, set_cell (set_cell u1 hne2) hne2⟩)
        (fail)
      all_goals (
        go_wp2
        go_ret
        exact ⟨by rw [HR.out]; rfl, by rw [HR.out]; exact HW7.out⟩)
end Go.Proofs.YtllhbhogfffedaaGreatDoor.K

namespace Go.Proofs.YtllhbhogfffedaaGreatDoor
open Go.RowKit
set_option linter.unusedVariables false

end Go.Proofs.YtllhbhogfffedaaGreatDoor

namespace Go.Proofs.YtllhbhogfffedaaGreatDoor
open Go.RowKit
set_option linter.unusedVariables false
set_option linter.unusedSimpArgs false

/-- How many bytes the first frames have. -/
def frT (l : List Rc) (k : Nat) : Nat := ((l.take k).flatMap frB).length
theorem frT_0 (l : List Rc) : frT l 0 = 0 := by simp [frT]
theorem frT_all (l : List Rc) {k : Nat} (h : l.length ≤ k) : frT l k = (l.flatMap frB).length := by unfold frT; rw [List.take_of_length_le h]
theorem frT_le (l : List Rc) (k : Nat) : frT l k ≤ (l.flatMap frB).length := by
  unfold frT
  have : l.flatMap frB = (l.take k).flatMap frB ++ (l.drop k).flatMap frB := by rw [← List.flatMap_append, List.take_append_drop]
  rw [this, List.length_append]
  omega
/-- Where a number of bytes ends. -/
theorem cut_ex (l : List Rc) (C : Nat) : ∀ n, n ≤ l.length → ∃ K, K ≤ n ∧ (∀ j, j < K → frT l (j + 1) ≤ C) ∧ (K < n → C < frT l (K + 1))
  | 0, _ => ⟨0, Nat.le_refl _, fun j hj => by omega, fun h => by omega⟩
  | n + 1, hn => by
    obtain ⟨K, h1, h2, h3⟩ := cut_ex l C n (by omega)
    by_cases e : K < n
    · exact ⟨K, by omega, h2, fun _ => h3 e⟩
    · obtain rfl : K = n := by omega
      by_cases q : frT l (K + 1) ≤ C
      · exact ⟨K + 1, by omega, fun j hj => by
          by_cases ej : j < K
          · exact h2 j ej
          · obtain rfl : j = K := by omega
            exact q, fun h => by omega⟩
      · exact ⟨K, by omega, h2, fun _ => by omega⟩
theorem cut_lo {l : List Rc} {C K : Nat} (h : ∀ j, j < K → frT l (j + 1) ≤ C) : frT l K ≤ C := by
  cases K with
  | zero => rw [frT_0]; omega
  | succ k => exact h k (by omega)
theorem scR_at {l : List Rc} (hm : ∀ r ∈ l, mayB6 r = true ∧ Bytey r.data) {C K : Nat} (hC : C ≤ (l.flatMap frB).length) (hK : K ≤ l.length) (h1 : ∀ j, j < K → frT l (j + 1) ≤ C) (h2 : K < l.length → C < frT l (K + 1)) : scR ((l.flatMap frB).take C) = (l.take K, frT l K) := by
  by_cases e : K < l.length
  · exact scR_cut hm e (cut_lo h1) (h2 e)
  · obtain rfl : K = l.length := by omega
    have h3 := cut_lo h1
    rw [frT_all l (Nat.le_refl _)] at h3 ⊢
    rw [List.take_of_length_le h3, List.take_length]
    exact scR_all hm

def endsL (l : List Rc) (k : Nat) : List Value := (List.range k).map fun j => .int .i64 ((frT l (j + 1) : Nat) : Int)
/-- The frames and their ends. -/
structure Th (w wr : World) (v e : Value) (l : List Rc) (k : Nat) : Prop where
  row : wr.ownsRow w.heap.size 5 1 v (frT l k) (((l.take k).flatMap frB).map (Value.int .u8))
  ends : wr.ownsRow w.heap.size 3 1 e k (endsL l k)
  ne : ∀ j, v.ownBlock = some j → e.ownBlock ≠ some j
  bel : Below w.heap.size w wr
theorem lies_take {W : World} {a : Option Addr} {ys : List Int} (h : Lies .u8 W a ys) (C : Nat) : Lies .u8 W a (ys.take C) := by
  rcases h with rfl | ⟨g, off, h1, h2⟩
  · left; simp
  · refine .inr ⟨g, off, h1, fun i hi => ?_⟩
    rw [List.length_take] at hi
    rw [h2 i (by omega), List.getD_eq_getElem?_getD, List.getD_eq_getElem?_getD, List.getElem?_take_of_lt (by omega)]
end Go.Proofs.YtllhbhogfffedaaGreatDoor

namespace Go.Proofs.YtllhbhogfffedaaGreatDoor.K
open Go.RowKit
set_option linter.unusedVariables false
set_option linter.unusedSimpArgs false

abbrev dkF (fs : List Fl) (M : Int) : Dk := ⟨fs, M, false, 0, false, false⟩
/-- The law's disks, with how many bytes there may be. -/
structure PJ (Bs : List Int) (B : Nat) (act : Int) (D : Dk) : Prop where
  jd : Jd Bs D
  dw : D.dw = false
  ok : D.Ok B
  arm : D.arm = true → 0 ≤ act
theorem ok_opx {D : Dk} {B : Nat} (h : D.Ok B) : (opX D).d.Ok B := by
  have h1 : (rmD D).1.Ok B := ok_file h (fun i => fsok_erase h.files)
  unfold opX
  split
  · unfold opB
    split
    · unfold opC
      split
      · split
        · exact ok_file h1 (fun i => fsok_cut h1.files)
        · exact ok_file h1 (fun i => fsok_cut h1.files)
      · exact h1
    · exact h1
  · exact h1
/-- Disks that are up and not armed. -/
structure PU (Bs : List Int) (B : Nat) (D : Dk) : Prop where
  jd : Jd Bs D
  dw : D.dw = false
  arm : D.arm = false
  ok : D.Ok B
end Go.Proofs.YtllhbhogfffedaaGreatDoor.K

namespace Go.Proofs.YtllhbhogfffedaaGreatDoor.K
open Go.RowKit
set_option linter.unusedVariables false
set_option linter.unusedSimpArgs false

abbrev fr (l : List Rc) : List Int := l.flatMap frB
def Vd (l : List Rc) : Prop := ∀ r ∈ l, mayB6 r = true ∧ Bytey r.data
theorem fr_app (a b : List Rc) : fr (a ++ b) = fr a ++ fr b := by simp [fr]
theorem fr_alen (a b : List Rc) : (fr (a ++ b)).length = (fr a).length + (fr b).length := by rw [fr_app, List.length_append]
theorem Vd.app {a b : List Rc} (h : Vd a) (h' : Vd b) : Vd (a ++ b) := fun r hr => (List.mem_append.mp hr).elim (h r) (h' r)
theorem Vd.byt {l : List Rc} (h : Vd l) : Bytey (fr l) := fr_bytey h
theorem Vd.take {l : List Rc} (h : Vd l) (k : Nat) : Vd (l.take k) := fun r hr => h r (List.mem_of_mem_take hr)
theorem fr_pos {l : List Rc} (h : l ≠ []) : 0 < (fr l).length := by
  cases l with
  | nil => exact absurd rfl h
  | cons r t =>
    have := frB_len r
    simp only [fr, List.flatMap_cons, List.length_append]
    omega
theorem fr_zero {l : List Rc} (h : (fr l).length = 0) : l = [] := by
  by_cases e : l = []
  · exact e
  · have := fr_pos e; omega

/-! ## Files, as the power may leave them -/
/-- The file 'journal': these records and the first ones of those, so many bytes safe; perhaps 'journal.new' beside it. -/
def Dd (sure more : List Rc) (fs : List Fl) : Prop := ∃ p, p <+: more ∧ ((sure = [] ∧ fs = []) ∨ (sure = [] ∧ ∃ L s, fs = [⟨jnN, L, s⟩]) ∨ ∃ sf : Nat, (fr sure).length ≤ sf ∧ sf ≤ (fr (sure ++ p)).length ∧ (fs = [⟨jN, fr (sure ++ p), (sf : Int)⟩] ∨ ∃ L s, fs = [⟨jN, fr (sure ++ p), (sf : Int)⟩, ⟨jnN, L, s⟩]))
/-- A disk that is up, behind an Open: the file 'journal' holds these records, all safe. -/
structure Up (l : List Rc) (D : Dk) : Prop where
  fs : (l = [] ∧ D.fs = []) ∨ D.fs = [⟨jN, fr l, ((fr l).length : Int)⟩]
  dw : D.dw = false
  arm : D.arm = false
theorem fnd_nil (s : ByteArray) : fnd [] s = none := rfl
theorem fnd_nn (L : List Int) (s : Int) : fnd [⟨jnN, L, s⟩] jnN = some 0 := by unfold fnd; rw [List.findIdx?_cons, isN_n]; rfl
theorem fnd_nj (L : List Int) (s : Int) : fnd [⟨jnN, L, s⟩] jN = none := by unfold fnd; rw [List.findIdx?_cons, isN_jn]; rfl
theorem act_up {D : Dk} (h : D.arm = false) (fs : List Fl) : actD D fs = { D with fs := fs } ∧ actR D = 0 := by
  have hb : ¬ actB D = true := by unfold actB; rw [h]; simp
  unfold actD actR
  rw [if_neg hb, if_neg hb, h]
  exact ⟨by simp, rfl⟩
/-- Behind the removal: an Open of a disk whose file 'journal' holds the first bytes of some records' frames. -/
theorem opB_up {l : List Rc} (hv : Vd l) {E : Dk} (hd : E.dw = false) (ha : E.arm = false) {C : Nat} (hC : C ≤ (fr l).length) (hf : E.fs = [⟨jN, (fr l).take C, (C : Int)⟩]) :
    ∃ K, K ≤ l.length ∧ (∀ j, j < K → frT l (j + 1) ≤ C) ∧ (K < l.length → C < frT l (K + 1)) ∧ (opB E).r = 0 ∧ (opB E).l = l.take K ∧ (opB E).n = (fr (l.take K)).length ∧ (opB E).k ≤ (opB E).n ∧ Up (l.take K) (opB E).d ∧ (opB E).d.room = E.room := by
  obtain ⟨K, h1, h2, h3⟩ := cut_ex l C l.length (Nat.le_refl _)
  have hsc := scR_at hv hC h1 h2 h3
  have hlo := cut_lo h2
  have hbl : ((fr l).take C).length = C := by rw [List.length_take]; omega
  have hfk : frT l K = (fr (l.take K)).length := rfl
  have htk : ((fr l).take C).take (frT l K) = fr (l.take K) := by
    rw [List.take_take, Nat.min_eq_left hlo]
    have : fr l = fr (l.take K) ++ fr (l.drop K) := by rw [← fr_app, List.take_append_drop]
    rw [this, hfk]
    exact List.take_left
  have e1 : rdN E jN = 0 := by unfold rdN; rw [hd, hf, fnd_j]; rfl
  have e2 : rdB E jN = (fr l).take C := by unfold rdB; rw [hd, hf, fnd_j]; rfl
  refine ⟨K, h1, h2, h3, ?_⟩
  unfold opB
  rw [e1, e2, if_pos (by simp [rmE])]
  unfold opC
  rw [hsc, hbl]
  simp only
  have hfd : fileD E jN (fun i => cutF E.fs i (frT l K : Nat)) = (actD E (cutF E.fs 0 (frT l K : Nat)), actR E) := by
    unfold fileD
    rw [hd, hf, fnd_j]
    rfl
  rw [hfd]
  have hcut : cutF E.fs 0 (frT l K : Nat) = [⟨jN, fr (l.take K), ((fr (l.take K)).length : Int)⟩] := by
    have hcn : cutN ⟨jN, (fr l).take C, (C : Int)⟩ (frT l K : Nat) = frT l K := by
      unfold cutN
      simp only
      rw [hbl]
      omega
    unfold cutF setF
    rw [hf]
    simp only [List.getElem?_cons_zero, List.set_cons_zero]
    rw [hcn, htk, hfk]
  rw [hcut, (act_up ha _).1, (act_up ha []).2]
  by_cases hlt : frT l K < C
  · rw [if_pos hlt, if_pos rfl]
    exact ⟨rfl, rfl, hfk, Nat.zero_le _, ⟨.inr rfl, hd, ha⟩, rfl⟩
  · rw [if_neg hlt]
    refine ⟨rfl, rfl, hfk, Nat.le_refl _, ⟨.inr ?_, hd, ha⟩, rfl⟩
    show E.fs = _
    have hCe : C = frT l K := by omega
    have h9 : (fr l).take C = fr (l.take K) := by
      have := htk
      rw [← hCe, List.take_take, Nat.min_self] at this
      exact this
    have h10 : (fr (l.take K)).length = C := (hCe.trans hfk).symm
    rw [hf, h9, h10]

theorem cr_one (s : ByteArray) (bs : List Int) (sf : Nat) (keep : Int) (h : sf ≤ bs.length) : ∃ C : Nat, sf ≤ C ∧ C ≤ bs.length ∧ cr1 keep ⟨s, bs, (sf : Int)⟩ = ⟨s, bs.take C, (C : Int)⟩ := by
  have hM : 0 ≤ nn0 keep := by unfold nn0; split <;> omega
  have hq : 0 ≤ crQ ⟨s, bs, (sf : Int)⟩ (nn0 keep) ∧ (sf : Int) + crQ ⟨s, bs, (sf : Int)⟩ (nn0 keep) ≤ bs.length := by
    unfold crQ
    simp only
    split <;> omega
  obtain ⟨C, hC⟩ : ∃ C : Nat, (sf : Int) + crQ ⟨s, bs, (sf : Int)⟩ (nn0 keep) = C := ⟨((sf : Int) + crQ ⟨s, bs, (sf : Int)⟩ (nn0 keep)).toNat, by omega⟩
  refine ⟨C, by omega, by omega, ?_⟩
  unfold cr1
  simp only
  rw [hC]
  simp
theorem cr_name (keep : Int) (s : ByteArray) (L : List Int) (t : Int) : ∃ L' t', cr1 keep ⟨s, L, t⟩ = ⟨s, L', t'⟩ := ⟨_, _, rfl⟩
/-- What an Open answers, told by its parts. -/
structure Od (sure more : List Rc) (M : Int) (O : Opn) : Prop where
  r : O.r = 0
  tk : ∃ K, sure.length ≤ K ∧ K ≤ (sure ++ more).length ∧ O.l = (sure ++ more).take K
  n : O.n = (fr O.l).length
  k : O.k ≤ O.n
  up : Up O.l O.d
  room : O.d.room = M
theorem od_none {sure more : List Rc} {E : Dk} (hd : E.dw = false) (ha : E.arm = false) (hs : sure = []) (hf : E.fs = []) : Od sure more E.room (opB E) := by
  have e1 : rdN E jN = 3 := by unfold rdN; rw [hd, hf]; rfl
  have e2 : rdB E jN = [] := by unfold rdB; rw [hd, hf]; rfl
  have e : opB E = ⟨E, 0, [], 0, 0⟩ := by
    unfold opB
    rw [e1, e2, if_pos (by simp [rmE])]
    unfold opC
    have : scR [] = ([], 0) := rfl
    rw [this]
    simp
  rw [e]
  exact ⟨rfl, ⟨0, by rw [hs]; simp, Nat.zero_le _, by simp⟩, rfl, Nat.le_refl _, ⟨.inl ⟨rfl, hf⟩, hd, ha⟩, rfl⟩
theorem od_some {sure more p : List Rc} (hv : Vd (sure ++ more)) (hp : p <+: more) {E : Dk} (hd : E.dw = false) (ha : E.arm = false) {C : Nat} (h1 : (fr sure).length ≤ C) (h2 : C ≤ (fr (sure ++ p)).length) (hf : E.fs = [⟨jN, (fr (sure ++ p)).take C, (C : Int)⟩]) : Od sure more E.room (opB E) := by
  obtain ⟨q, rfl⟩ := hp
  have hvp : Vd (sure ++ p) := fun r hr => hv r (by rw [List.mem_append] at hr ⊢; rcases hr with h | h; exact .inl h; exact .inr (List.mem_append.mpr (.inl h)))
  obtain ⟨K, k1, k2, k3, k4, k5, k6, k7, k8, k9⟩ := opB_up hvp hd ha h2 hf
  have hK : sure.length ≤ K := by
    rcases Nat.lt_or_ge K sure.length with h | h
    · exfalso
      have h3 := k3 (by rw [List.length_append]; omega)
      have h4 : frT (sure ++ p) (K + 1) ≤ (fr sure).length := by
        unfold frT
        rw [List.take_append_of_le_length (by omega)]
        exact frT_le sure (K + 1)
      omega
    · exact h
  have htk : (sure ++ (p ++ q)).take K = (sure ++ p).take K := by rw [← List.append_assoc, List.take_append_of_le_length k1]
  refine ⟨k4, ⟨K, hK, by rw [List.length_append] at k1 ⊢; rw [List.length_append]; omega, by rw [htk]; exact k5⟩, by rw [k5]; exact k6, k7, by rw [k5]; exact k8, k9⟩
/-- AN OPEN BEHIND A LOSS OF POWER. -/
theorem open_dd {sure more : List Rc} (hv : Vd (sure ++ more)) {D : Dk} (h : Dd sure more D.fs) (keep : Int) : Od sure more D.room (opX (crD D keep)) := by
  obtain ⟨p, hp, h⟩ := h
  have hdw : (crD D keep).dw = false := rfl
  have harm : (crD D keep).arm = false := rfl
  -- a removal that finds nothing, and one that does
  have rm0 : ∀ fs, (crD D keep).fs = fs → fnd fs jnN = none → opX (crD D keep) = opB (crD D keep) := fun fs e1 e2 => by
    have : rmD (crD D keep) = (crD D keep, 3) := by
      unfold rmD fileD
      rw [hdw, e1, e2]
      rfl
    unfold opX
    rw [this, if_pos (by simp [rmE])]
  have rm1 : ∀ fs i, (crD D keep).fs = fs → fnd fs jnN = some i → opX (crD D keep) = opB { crD D keep with fs := fs.eraseIdx i } := fun fs i e1 e2 => by
    have : rmD (crD D keep) = ({ crD D keep with fs := fs.eraseIdx i }, 0) := by
      unfold rmD fileD
      rw [hdw, e1, e2]
      simp only [Bool.false_eq_true, if_false]
      rw [(act_up harm _).1, (act_up harm []).2]
    unfold opX
    rw [this, if_pos (by simp [rmE])]
  rcases h with ⟨hs, hf⟩ | ⟨hs, L, s, hf⟩ | ⟨sf, h1, h2, hf | ⟨L, s, hf⟩⟩
  · have e : (crD D keep).fs = [] := by show D.fs.map _ = _; rw [hf]; rfl
    rw [rm0 _ e (fnd_nil _)]
    exact od_none hdw harm hs e
  · obtain ⟨L', s', hc⟩ := cr_name keep jnN L s
    have e : (crD D keep).fs = [⟨jnN, L', s'⟩] := by show D.fs.map _ = _; rw [hf, List.map_cons, hc]; rfl
    rw [rm1 _ 0 e (fnd_nn _ _)]
    exact od_none (E := { crD D keep with fs := [(⟨jnN, L', s'⟩ : Fl)].eraseIdx 0 }) hdw harm hs rfl
  · obtain ⟨C, c1, c2, hc⟩ := cr_one jN (fr (sure ++ p)) sf keep h2
    have e : (crD D keep).fs = [⟨jN, (fr (sure ++ p)).take C, (C : Int)⟩] := by show D.fs.map _ = _; rw [hf, List.map_cons, hc]; rfl
    rw [rm0 _ e (fnd_n1 _ _)]
    exact od_some hv hp hdw harm (Nat.le_trans h1 c1) c2 e
  · obtain ⟨C, c1, c2, hc⟩ := cr_one jN (fr (sure ++ p)) sf keep h2
    obtain ⟨L', s', hc'⟩ := cr_name keep jnN L s
    have e : (crD D keep).fs = [⟨jN, (fr (sure ++ p)).take C, (C : Int)⟩, ⟨jnN, L', s'⟩] := by show D.fs.map _ = _; rw [hf, List.map_cons, hc, List.map_cons, hc']; rfl
    rw [rm1 _ 1 e (fnd_n2 _ _ _ _)]
    exact od_some (E := { crD D keep with fs := [(⟨jN, (fr (sure ++ p)).take C, (C : Int)⟩ : Fl), ⟨jnN, L', s'⟩].eraseIdx 1 }) hv hp hdw harm (Nat.le_trans h1 c1) c2 rfl
theorem up_dd {l : List Rc} {D : Dk} (h : Up l D) : Dd l [] D.fs := by
  refine ⟨[], List.prefix_refl _, ?_⟩
  rcases h.fs with ⟨h1, h2⟩ | h1
  · exact .inl ⟨h1, h2⟩
  · exact .inr (.inr ⟨(fr l).length, Nat.le_refl _, by rw [List.append_nil]; exact Nat.le_refl _, .inl (by rw [List.append_nil]; exact h1)⟩)
end Go.Proofs.YtllhbhogfffedaaGreatDoor.K
