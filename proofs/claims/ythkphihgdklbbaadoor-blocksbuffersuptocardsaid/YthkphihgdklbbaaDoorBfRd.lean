import Derived.Test.YthkphihgdklbbaaDoorBfGro
import Derived.Test.YthkphihgdklbbaaDoorBkMk2
namespace Go.Proofs.YthkphihgdklbbaaDoor.C
open Go.RowKit Go.Shelf
attribute [local go_sem] Oper.semAt_some
set_option linter.unusedVariables false

def bf0 : Bf := ⟨[], [], false⟩
theorem bf0_ok : bf0.Ok := ⟨⟨by simp [bf0], by simp [bf0, Rt]⟩, by simp [bf0, Bytey], by simp [bf0], by simp [bf0], by simp [bf0], by simp [bf0]⟩
theorem new4_any (w : World) : Calls Tryd.prog 11 #[] w fun e w' => e = .returned (.pointer (some ⟨w.heap.size, 0, none⟩)) ∧ Bu w' w.heap.size (fun k => w.heap.size ≤ k) bf0 ∧ Below w.heap.size w w' := by
  have HB : Hid (Bu (w.alloc (.cells #[.slice none 0 0, .slice none 0 0, .bool false] 86)) w.heap.size (fun k => w.heap.size ≤ k) bf0) :=
    ⟨⟨.slice none 0 0, .slice none 0 0, ⟨heap_alloc_new' _ _, SOwn.nil _ _, World.ownsRow_nil _ _ _ _, bf0_ok⟩, (by intro k hk; cases hk), (by intro k hk; cases hk)⟩, Nat.le_refl _⟩
  have HL : Hid (Below w.heap.size w (w.alloc (.cells #[.slice none 0 0, .slice none 0 0, .bool false] 86))) := (Below.refl _ _).alloc (Nat.le_refl _) _
  go_enter Tryd.func11, Tryd.ntmps11
  go_wp2
  go_ret
  exact ⟨rfl, HB.out, HL.out⟩

theorem spa_src3 {W : World} {l : List Sp} {g off : Nat} (h : Spa W (some ⟨g, off, none⟩) l) : ∀ j u, (l.flatMap spc)[j]? = some u → W.cell? ((⟨g, off, none⟩ : Addr).add j) = some u := by
  intro j u hj
  have hjl : j < l.length * 2 := by
    rw [← spc_len]
    exact (List.getElem?_eq_some_iff.mp hj).1
  obtain ⟨p, hp⟩ := get_some l (j / 2) (by omega)
  obtain ⟨g', off', he, c1, c2⟩ := h.at hp
  simp only [Option.some.injEq, Addr.mk.injEq, and_true] at he
  obtain ⟨rfl, rfl⟩ := he
  obtain ⟨q1, q2⟩ := spc_get l (j / 2) p hp
  rw [show (⟨g, off, none⟩ : Addr).add j = ⟨g, off + j, none⟩ from by unfold Addr.add; split <;> simp_all]
  rcases Nat.mod_two_eq_zero_or_one j with e | e
  · rw [show j / 2 * 2 = j from by omega] at q1
    rw [q1] at hj; cases hj
    rw [show off + j = off + j / 2 * 2 from by omega]; exact c1
  · rw [show j / 2 * 2 + 1 = j from by omega] at q2
    rw [q2] at hj; cases hj
    rw [show off + j = off + j / 2 * 2 + 1 from by omega]; exact c2

set_option maxHeartbeats 4000000 in
/-- A copy of a set of one's own. -/
theorem clone_set {base : Nat} {v : Value} {l : List Sp} {w : World} (h : SOwn w base v l) (hm : l.length ≤ 1048576) :
    Calls Tryd.prog 41 #[v] w fun e w' => ∃ v, e = .returned v ∧ SOwn w' w.heap.size v l ∧ Below w.heap.size w w' := by
  have q22 : ∀ (w : World) (a : Option Addr) (n c n' c' : Nat), (binOp .eql 59 (.slice a n c) (.slice none n' c')).run Tryd.prog w = .ok (.bool a.isNone) w := fun w a n c n' c' => Lib.run_eql_slice_nil w _ _ a n c n' c' Tryd.underlying59
  obtain ⟨hl, ⟨rfl, h0⟩ | ⟨g, c, cur, rfl, hr⟩⟩ := id h
  · have hl0 : l = [] := List.eq_nil_of_length_eq_zero h0
    subst hl0
    clear h
    go_enter Tryd.func41, Tryd.ntmps41
    go_wp2
    go_ret
    exact ⟨_, rfl, SOwn.nil _ _, Below.refl _ _⟩
  · obtain ⟨i0, hi, hz0, hz1, hz2⟩ := info_parts Tryd.info_span
    have HSr : Hid (∀ W, Below w.heap.size w W → ∀ k u, (l.flatMap spc)[k]? = some u → W.cell? ((⟨g, 0, none⟩ : Addr).add k) = some u) := fun W hW => spa_src3 ((SOwn.spa h).below hW)
    clear h hl hr
    go_enter Tryd.func41, Tryd.ntmps41
    have HO : Hid ((w.alloc (.cells #[] 38)).ownsRow w.heap.size 38 2 (.slice (some ⟨w.heap.size, 0, none⟩) 0 0) 0 []) := ⟨rfl, .inr ⟨w.heap.size, 0, #[], rfl, Nat.le_refl _, heap_alloc_new' _ _, Nat.le_refl _, by unfold maxLen; omega, rfl, rfl⟩⟩
    have HB0 : Hid (Below w.heap.size w (w.alloc (.cells #[] 38))) := (Below.refl _ _).alloc (Nat.le_refl _) _
    go_wp2_with (at_builtin; refine wpList_append_own_at _ rfl _ _ 59 rfl w.heap.size 38 i0 (.agg #[.int .i64 0, .int .i64 0]) 2 16 Tryd.underlying59 hi hz0 hz1 hz2 rfl (by decide) _ _ _ rfl HO.out ⟨g, 0, none⟩ l.length c (l.flatMap spc) rfl (by rw [spc_len]) (HSr.out _ HB0.out) ?c2 ?c3 ?c4 ?c5 ?_)
    case c2 => intro v hv; obtain ⟨p, _, hp⟩ := List.mem_flatMap.mp hv; simp [spc] at hp; rcases hp with rfl | rfl <;> rfl
    case c3 => unfold maxLen; omega
    case c4 => omega
    case c5 => simp
    intro vo w9 hown9 hgrow9 _ _
    have HS9 : Hid (SOwn w9 w.heap.size vo l) := by unfold Hid SOwn; simpa using hown9
    have HB9 : Hid (Below w.heap.size w w9) := HB0.out.grown hgrow9 (by simp) (fun k e => by simp [Value.ownBlock] at e; omega)
    obtain ⟨a9, c9, hvo⟩ := HS9.out.shape
    subst hvo
    clear hown9 hgrow9 HO HB0
    go_wp2
    go_ret
    exact ⟨_, rfl, HS9.out, HB9.out⟩

theorem have_any (Bb : Nat) (b : Bf) (F : Nat → Prop) (w : World) (hB : Bu w Bb F b) : Calls Tryd.prog 14 #[.pointer (some ⟨Bb, 0, none⟩)] w fun e w' => ∃ v, e = .returned v ∧ SOwn w' w.heap.size v b.l ∧ Below w.heap.size w w' := by
  obtain ⟨hv, bv, hC, _, _⟩ := hB.ex
  have q0 : w.cell? ⟨Bb, 0, none⟩ = some hv := cell_of_row _ _ 0 _ _ _ hC.blk
  have hcl := clone_set hC.hav (by have := hC.ok.set.1; omega)
  obtain ⟨ah, ch, rfl⟩ : ∃ a c, hv = .slice a b.l.length c := own_shape hC.hav
  clear hC hB
  go_enter Tryd.func14, Tryd.ntmps14
  go_wp2_with fail
  refine hcl.mono ?_
  rintro e w1 ⟨v, rfl, h1, h2⟩
  obtain ⟨a1, c1, rfl⟩ := h1.shape
  have H1 : Hid (SOwn w1 w.heap.size (.slice a1 b.l.length c1) b.l ∧ Below w.heap.size w w1) := ⟨h1, h2⟩
  clear hcl h1 h2
  go_wp2
  go_ret
  exact ⟨_, rfl, H1.out.1, H1.out.2⟩

/-- How many bytes are held. -/
def heldN (b : Bf) : Int := if b.dr = true then 0 else siz b.l
theorem held_any (Bb : Nat) (b : Bf) (F : Nat → Prop) (w : World) (hB : Bu w Bb F b) : Calls Tryd.prog 17 #[.pointer (some ⟨Bb, 0, none⟩)] w fun e w' => e = .returned (.int .i64 (heldN b)) ∧ Below w.heap.size w w' := by
  obtain ⟨hv, bv, hC, _, _⟩ := hB.ex
  have q0 : w.cell? ⟨Bb, 0, none⟩ = some hv := cell_of_row _ _ 0 _ _ _ hC.blk
  have q2 : w.cell? ⟨Bb, 2, none⟩ = some (.bool b.dr) := cell_of_row _ _ 2 _ _ _ hC.blk
  have hsz := size_ls (SOwn.ls hC.hav (by have := hC.ok.set.1; omega))
  have HSz : Hid (szB b.l = siz b.l) := by unfold Hid szB; rw [setB_iff.mpr hC.ok.set]; rfl
  obtain ⟨ah, ch, rfl⟩ : ∃ a c, hv = .slice a b.l.length c := own_shape hC.hav
  clear hC hB
  cases hd : b.dr with
  | true =>
    have HH : Hid (heldN b = 0) := by unfold Hid heldN; rw [if_pos hd]
    rw [hd] at q2
    go_enter Tryd.func17, Tryd.ntmps17
    go_wp2
    go_ret
    exact ⟨by rw [HH.out]; rfl, Below.refl _ _⟩
  | false =>
    have HH : Hid (heldN b = szB b.l) := by unfold Hid heldN; rw [if_neg (by simp [hd]), HSz.out]
    rw [hd] at q2
    go_enter Tryd.func17, Tryd.ntmps17
    go_wp2_with fail
    refine hsz.mono ?_
    rintro e w1 ⟨rfl, hb1⟩
    have H1 : Hid (Below w.heap.size w w1) := hb1
    clear hsz hb1
    go_wp2
    go_ret
    exact ⟨by rw [HH.out]; rfl, H1.out⟩

def dropB (b : Bf) : Bf := ⟨b.l, [], true⟩
theorem drop_ok {b : Bf} (h : b.Ok) : (dropB b).Ok := ⟨h.set, by simp [dropB, Bytey], by simp [dropB], h.top, by simp [dropB], by simp [dropB]⟩
theorem drop_any (Bb : Nat) (b : Bf) (F : Nat → Prop) (w : World) (hB : Bu w Bb F b) : Calls Tryd.prog 30 #[.pointer (some ⟨Bb, 0, none⟩)] w fun e w' => (∃ v, e = .returned v) ∧ Bu w' Bb F (dropB b) ∧ Kf F w w' := by
  obtain ⟨hv, bv, hC, h1, h2⟩ := hB.ex
  have q1 : w.cell? ⟨Bb, 1, none⟩ = some bv := cell_of_row _ _ 1 _ _ _ hC.blk
  have q2 : w.cell? ⟨Bb, 2, none⟩ = some (.bool b.dr) := cell_of_row _ _ 2 _ _ _ hC.blk
  have f1 : w.frozen? ⟨Bb, 1, none⟩ = false := frozen_of_row _ _ 1 _ _ hC.blk
  have f2 : w.frozen? ⟨Bb, 2, none⟩ = false := frozen_of_row _ _ 2 _ _ hC.blk
  have HE : Hid (Bu ((w.setCell ⟨Bb, 1, none⟩ (.slice none 0 0)).setCell ⟨Bb, 2, none⟩ (.bool true)) Bb F (dropB b) ∧ Kf F w ((w.setCell ⟨Bb, 1, none⟩ (.slice none 0 0)).setCell ⟨Bb, 2, none⟩ (.bool true))) := by
    have hs : ∀ k, k ≠ Bb → ((w.setCell ⟨Bb, 1, none⟩ (.slice none 0 0)).setCell ⟨Bb, 2, none⟩ (.bool true)).heap[k]? = w.heap[k]? := fun k hk => (Below.heap_setCell _ _ _ _ hk).trans (Below.heap_setCell _ _ _ _ hk)
    refine ⟨⟨⟨hv, .slice none 0 0, ⟨?_, own_same0 hC.hav (fun k hk => hs k (fun e => ?_)), World.ownsRow_nil _ _ _ _, drop_ok hC.ok⟩, h1, (by intro k hk; cases hk)⟩, hB.self⟩, ⟨Ox.refl w, by simp [World.setCell], fun k hk hn => hs k (fun e => hn (by rw [e]; exact hB.self))⟩⟩
    · simp [World.setCell, Array.getElem?_modify, hC.blk, dropB]
    · subst e
      obtain ⟨_, ⟨h9, _⟩ | ⟨g', cap, cur, h9, _, hh, _⟩⟩ := hC.hav
      · rw [h9] at hk; cases hk
      · rw [h9] at hk; cases hk; rw [hC.blk] at hh; cases hh
  obtain ⟨ab, cb', rfl⟩ : ∃ a c, bv = .slice a b.bs.length c := own_shape hC.byt
  clear hC hB h1 h2
  go_enter Tryd.func30, Tryd.ntmps30
  go_wp2
  go_end0
  exact ⟨⟨_, rfl⟩, HE.out.1, HE.out.2⟩

/-! ## Read -/
def rdB (b : Bf) (f t : Int) : Bool := !b.dr && (decide (f < t) && cvB b.l (f, t))
def rdL (b : Bf) (f t : Int) : List Int := if rdB b f t = true then (b.bs.drop f.toNat).take (t - f).toNat else []
theorem cv_has {l : List Sp} {f t : Int} (h : cvB l (f, t) = true) : IsSet l ∧ Asked (f, t) ∧ ∀ x, f ≤ x → x < t → has l x = true := by
  unfold cvB at h
  simp only [Bool.and_eq_true, decide_eq_true_eq] at h
  have h1 := setB_iff.mp h.1
  refine ⟨h1, askB_iff.mp h.2.1, fun x x1 x2 => ?_⟩
  have h2 := gps_has (s := (f, t)) h1.2 x
  rw [h.2.2, show inn (f, t) x = true from inn_iff.mpr ⟨x1, x2⟩] at h2
  simp only [has, Bool.true_and] at h2
  cases hx : has l x with
  | true => rfl
  | false => rw [hx] at h2; cases h2
theorem rd_fits {b : Bf} {f t : Int} (hb : b.Ok) (h : rdB b f t = true) : b.dr = false ∧ 0 ≤ f ∧ f < t ∧ t ≤ b.bs.length := by
  unfold rdB at h
  simp only [Bool.and_eq_true, decide_eq_true_eq, Bool.not_eq_true'] at h
  obtain ⟨h1, h2, h3⟩ := cv_has h.2.2
  have h4 := (hb.hi (h3 (t - 1) (by omega) (by omega))).2.2 h.1
  have h5 := h2.1
  exact ⟨h.1, h5, h.2.1, by omega⟩
def RdPost (b : Bf) (f t : Int) (w : World) (e : Ending) (w' : World) : Prop := ∃ ad cd, e = .returned (.tuple #[.slice ad (rdL b f t).length cd, .bool (rdB b f t)]) ∧ w'.ownsRow w.heap.size 5 1 (.slice ad (rdL b f t).length cd) (rdL b f t).length ((rdL b f t).map (Value.int .u8)) ∧ Below w.heap.size w w'
theorem rd_no {b : Bf} {f t : Int} {w w' : World} (h : rdB b f t = false) (hb : Below w.heap.size w w') : RdPost b f t w (.returned (.tuple #[.slice none 0 0, .bool false])) w' := by
  have hl : rdL b f t = [] := by unfold rdL; rw [if_neg (by simp [h])]
  unfold RdPost
  rw [hl, h]
  exact ⟨none, 0, rfl, World.ownsRow_nil _ _ _ _, hb⟩

set_option maxRecDepth 100000 in
set_option maxHeartbeats 4000000 in
theorem read_any (Bb : Nat) (b : Bf) (F : Nat → Prop) (f t : Int) (w : World) (hB : Bu w Bb F b) : Calls Tryd.prog 16 #[.pointer (some ⟨Bb, 0, none⟩), .agg #[.int .i64 f, .int .i64 t]] w (RdPost b f t w) := by
  obtain ⟨hv, bv, hC, _, _⟩ := hB.ex
  have HC : Hid (BuC w Bb b hv bv) := hC
  obtain ⟨W0, hW0⟩ : ∃ W0, W0 = w.alloc (.cells #[.int .i64 f, .int .i64 t] 38) := ⟨_, rfl⟩
  have HB0 : Hid (Below w.heap.size w W0) := by rw [hW0]; exact (Below.refl _ _).alloc (Nat.le_refl _) _
  have hBl : Bb < w.heap.size := (Array.getElem?_eq_some_iff.1 hC.blk).1
  have q0 : W0.cell? ⟨Bb, 0, none⟩ = some hv := (HB0.out.cell (p := ⟨Bb, 0, none⟩) hBl).trans (cell_of_row _ _ 0 _ _ _ hC.blk)
  have q1 : W0.cell? ⟨Bb, 1, none⟩ = some bv := (HB0.out.cell (p := ⟨Bb, 1, none⟩) hBl).trans (cell_of_row _ _ 1 _ _ _ hC.blk)
  have q2 : W0.cell? ⟨Bb, 2, none⟩ = some (.bool b.dr) := (HB0.out.cell (p := ⟨Bb, 2, none⟩) hBl).trans (cell_of_row _ _ 2 _ _ _ hC.blk)
  have r0 : W0.cell? ⟨w.heap.size, 0, none⟩ = some (.int .i64 f) := by rw [hW0]; exact box0 _ _ _ _
  have r1 : W0.cell? ⟨w.heap.size, 1, none⟩ = some (.int .i64 t) := by rw [hW0]; exact box1 _ _ _ _
  have HCv : Hid (∀ V, Below W0.heap.size W0 V → Calls Tryd.prog 46 #[hv, .agg #[.int .i64 f, .int .i64 t]] V fun e w' => e = .returned (.bool (cvB b.l (f, t))) ∧ Below V.heap.size V w') := fun V hV => covers_any f t ((SOwn.below (SOwn.below hC.hav HB0.out) hV).ls (by have := hC.ok.set.1; omega))
  obtain ⟨ah, ch, rfl⟩ : ∃ a c, hv = .slice a b.l.length c := own_shape hC.hav
  obtain ⟨ab, cb', rfl⟩ : ∃ a c, bv = .slice a b.bs.length c := own_shape hC.byt
  clear hC hB
  cases hd : b.dr with
  | true =>
    have HR : Hid (rdB b f t = false) := by unfold Hid rdB; rw [hd]; rfl
    rw [hd] at q2
    rw [hW0] at q0 q1 q2 r0 r1 HB0
    go_enter Tryd.func16, Tryd.ntmps16
    go_wp2_with fail
    go_quiet (fail)
    go_wp2
    go_ret2
    exact rd_no HR.out (below_drewN HB0.out _)
  | false =>
    rw [hd] at q2
    by_cases hft : f < t
    · have HBe : Hid (Below W0.heap.size W0 W0.drew) := (Below.refl _ _).drew
      have k0 : W0.drew.cell? ⟨Bb, 0, none⟩ = some (.slice ah b.l.length ch) ∧ W0.drew.cell? ⟨Bb, 2, none⟩ = some (.bool false) ∧ W0.drew.cell? ⟨w.heap.size, 0, none⟩ = some (.int .i64 f) ∧ W0.drew.cell? ⟨w.heap.size, 1, none⟩ = some (.int .i64 t) := ⟨q0, q2, r0, r1⟩
      have hcv := HCv.out W0.drew HBe.out
      have hft' : ¬ (t ≤ f) := by omega
      have hge : decide (t ≤ f) = false := decide_eq_false hft'
      have HQ : Hid (∀ V, Below W0.heap.size W0 V → V.cell? ⟨Bb, 1, none⟩ = some (.slice ab b.bs.length cb') ∧ V.cell? ⟨w.heap.size, 0, none⟩ = some (.int .i64 f) ∧ V.cell? ⟨w.heap.size, 1, none⟩ = some (.int .i64 t)) := fun V hV => ⟨(hV.cell (p := ⟨Bb, 1, none⟩) (World.block_lt_of_cell? W0 ⟨Bb, 1, none⟩ q1)).trans q1, (hV.cell (p := ⟨w.heap.size, 0, none⟩) (World.block_lt_of_cell? W0 ⟨w.heap.size, 0, none⟩ r0)).trans r0, (hV.cell (p := ⟨w.heap.size, 1, none⟩) (World.block_lt_of_cell? W0 ⟨w.heap.size, 1, none⟩ r1)).trans r1⟩
      cases hc : cvB b.l (f, t) with
      | false =>
        have HR : Hid (rdB b f t = false) := by unfold Hid rdB; rw [hc]; simp
        rw [hc] at hcv
        clear HCv
        go_enter Tryd.func16, Tryd.ntmps16
        go_wp2_with fail
        rw [← hW0]
        clear hW0
        go_region_held3 (fun V => V.cell? ⟨Bb, 0, none⟩ = some (.slice ah b.l.length ch) ∧ V.cell? ⟨Bb, 2, none⟩ = some (.bool false) ∧ V.cell? ⟨w.heap.size, 0, none⟩ = some (.int .i64 f) ∧ V.cell? ⟨w.heap.size, 1, none⟩ = some (.int .i64 t))
          (first | (exact k0) | (exact k1))
          (first
            | (go_at_call 46
               refine hcv.mono ?_
               rintro e w1 ⟨rfl, hb1⟩
               have HB1 : Hid (Below W0.heap.size W0 w1) := HBe.out.trans hb1
               have k1 : w1.cell? ⟨Bb, 0, none⟩ = some (.slice ah b.l.length ch) ∧ w1.cell? ⟨Bb, 2, none⟩ = some (.bool false) ∧ w1.cell? ⟨w.heap.size, 0, none⟩ = some (.int .i64 f) ∧ w1.cell? ⟨w.heap.size, 1, none⟩ = some (.int .i64 t) := ⟨cell_below k0.1 hb1, cell_below k0.2.1 hb1, cell_below k0.2.2.1 hb1, cell_below k0.2.2.2 hb1⟩
               clear hb1))
        all_goals (
          go_wp2
          go_ret2
          exact rd_no HR.out (HB0.out.trans (HB1.out.mono HB0.out.size)))
      | true =>
        have HR : Hid (rdB b f t = true) := by unfold Hid rdB; rw [hc, hd]; simp [hft]
        have hfit := rd_fits HC.out.ok HR.out
        obtain ⟨fn, rfl⟩ : ∃ n : Nat, f = n := ⟨f.toNat, by omega⟩
        obtain ⟨tn, rfl⟩ : ∃ n : Nat, t = n := ⟨t.toNat, by omega⟩
        obtain ⟨gb, cpb, hsb⟩ : ∃ gb c, Value.slice ab b.bs.length cb' = .slice (some ⟨gb, 0, none⟩) b.bs.length c := own_some HC.out.byt (by omega)
        simp only [Value.slice.injEq, true_and] at hsb
        obtain ⟨rfl, rfl⟩ := hsb
        have hcpb : b.bs.length ≤ cb' ∧ cb' ≤ 9223372036854775807 := by
          obtain ⟨_, ⟨h9, _⟩ | ⟨g', cap, cur, h9, _, _, h8, h7, _⟩⟩ := HC.out.byt
          · cases h9
          · cases h9; simp only [maxLen] at h7; exact ⟨h8, by omega⟩
        have HL : Hid (rdL b fn tn = (b.bs.drop fn).take (tn - fn)) := by
          unfold Hid rdL; rw [if_pos HR.out]; congr 1; omega
        have hll : ((b.bs.drop fn).take (tn - fn)).length = tn - fn := by rw [List.length_take, List.length_drop]; omega
        have HCl : Hid (∀ V, Below W0.heap.size W0 V → Calls Tryd.prog 47 #[.slice (some ⟨gb, fn, none⟩) (tn - fn) (cb' - fn)] V fun e w' => ∃ ad cd, e = .returned (.slice ad (tn - fn) cd) ∧ w'.ownsRow V.heap.size 5 1 (.slice ad (tn - fn) cd) (tn - fn) (((b.bs.drop fn).take (tn - fn)).map (Value.int .u8)) ∧ Below V.heap.size V w') := fun V hV => clone_bytes gb fn (cb' - fn) ((b.bs.drop fn).take (tn - fn)) (tn - fn) hll V (.inr ⟨gb, fn, rfl, fun i hi => by
          have hgw : gb < w.heap.size := (HC.out.byt.lt gb rfl).2
          have h1 := HC.out.byt.cellAt (g := gb) (fn + i) (by omega)
          rw [(hV.cell (p := ⟨gb, fn + i, none⟩) (Nat.lt_of_lt_of_le hgw HB0.out.size)), (HB0.out.cell (p := ⟨gb, fn + i, none⟩) hgw), h1, List.getElem?_map, List.getD_eq_getElem?_getD, List.getElem?_take, if_pos (by omega), List.getElem?_drop, List.getElem?_eq_getElem (by omega)]
          rfl⟩) (by have := HC.out.ok.len; omega)
        rw [hc] at hcv
        clear HCv
        have hf1 : fn ≤ tn := by omega
        have hge2 : decide (tn ≤ fn) = false := decide_eq_false (by omega)
        have hge3 : ¬ (tn ≤ fn) := by omega
        have hf2 : tn ≤ cb' := by omega
        have hf3 : ¬ cb' = fn := by omega
        go_enter Tryd.func16, Tryd.ntmps16
        go_wp2_with fail
        rw [← hW0]
        clear hW0
        go_region_held3 (fun V => V.cell? ⟨Bb, 0, none⟩ = some (.slice ah b.l.length ch) ∧ V.cell? ⟨Bb, 2, none⟩ = some (.bool false) ∧ V.cell? ⟨w.heap.size, 0, none⟩ = some (.int .i64 (fn : Int)) ∧ V.cell? ⟨w.heap.size, 1, none⟩ = some (.int .i64 (tn : Int)))
          (first | (exact k0) | (exact k1))
          (first
            | (go_at_call 46
               refine hcv.mono ?_
               rintro e w1 ⟨rfl, hb1⟩
               have HB1 : Hid (Below W0.heap.size W0 w1) := HBe.out.trans hb1
               have k1 : w1.cell? ⟨Bb, 0, none⟩ = some (.slice ah b.l.length ch) ∧ w1.cell? ⟨Bb, 2, none⟩ = some (.bool false) ∧ w1.cell? ⟨w.heap.size, 0, none⟩ = some (.int .i64 (fn : Int)) ∧ w1.cell? ⟨w.heap.size, 1, none⟩ = some (.int .i64 (tn : Int)) := ⟨cell_below k0.1 hb1, cell_below k0.2.1 hb1, cell_below k0.2.2.1 hb1, cell_below k0.2.2.2 hb1⟩
               clear hb1))
        clear hcv k0 k1 q0 q1 q2 r0 r1
        have HB1d : Hid (Below W0.heap.size W0 w1.drew) := HB1.out.drew
        have m0 := HQ.out w1 HB1.out
        have m1 := HQ.out w1.drew HB1d.out
        have hcl := HCl.out w1.drew HB1d.out
        clear HCl
        go_wp2_with fail
        go_region_held3 (fun V => V.cell? ⟨Bb, 1, none⟩ = some (.slice (some ⟨gb, 0, none⟩) b.bs.length cb') ∧ V.cell? ⟨w.heap.size, 0, none⟩ = some (.int .i64 (fn : Int)) ∧ V.cell? ⟨w.heap.size, 1, none⟩ = some (.int .i64 (tn : Int)))
          (first | (exact m0) | (exact m1) | (exact m2))
          (first
            | (go_at_call 47
               refine hcl.mono ?_
               rintro e w2 ⟨ad, cd, rfl, ho2, hb2⟩
               have m2 := HQ.out w2 (HB1d.out.trans (hb2.mono HB1d.out.size))
               have H2 : Hid (w2.ownsRow w.heap.size 5 1 (.slice ad (tn - fn) cd) (tn - fn) (((b.bs.drop fn).take (tn - fn)).map (Value.int .u8)) ∧ Below w.heap.size w w2) := ⟨own_low0 ho2 (Nat.le_trans HB0.out.size HB1d.out.size), HB0.out.trans ((HB1d.out.trans (hb2.mono HB1d.out.size)).mono HB0.out.size)⟩
               clear ho2 hb2))
        all_goals (
          go_wp2
          go_ret2
          unfold RdPost
          rw [HL.out, hll, HR.out]
          exact ⟨ad, cd, rfl, H2.out.1, H2.out.2⟩)
    · have HR : Hid (rdB b f t = false) := by unfold Hid rdB; rw [decide_eq_false hft]; simp
      rw [hW0] at q0 q1 q2 r0 r1 HB0
      have hft' : t ≤ f := by omega
      go_enter Tryd.func16, Tryd.ntmps16
      go_wp2_with fail
      go_quiet (fail)
      go_wp2
      go_ret2
      exact rd_no HR.out (below_drewN HB0.out _)

end Go.Proofs.YthkphihgdklbbaaDoor.C
