import Derived.Test.YtnclfoljfnfglaiTmF1
import Derived.Test.YtnclfoljfnfglaiTmDrp
namespace Go.Proofs.Ytnclfoljfnfglai
open Go.RowKit Go.Maps
set_option linter.unusedVariables false

theorem neq_ses {a b c d : Int} (h1 : kI a = true) (h2 : kI b = true) (h3 : kI c = true) (h4 : kI d = true) (w : World) : (binOp .neq 49 (.agg #[.int .i64 a, .int .i64 b]) (.agg #[.int .i64 c, .int .i64 d])).run Try.prog w = .ok (.bool (!decide (a = c ∧ b = d))) w := by
  obtain ⟨r, hr, hiff⟩ := run_equalIn_deep (P := Try.prog) 9996 4 49 deep49 w _ _ (.agg #[.int .i64 a, .int .i64 b]) (.agg #[.int .i64 c, .int .i64 d]) _ _ (formed49 _ _) (formed49 _ _) (lits_ses h1 h2) (lits_ses h3 h4)
  have e : r = decide (a = c ∧ b = d) := by
    rw [Bool.eq_iff_iff, hiff, decide_eq_true_iff]
    simp
  subst e
  simp only [binOp, Op.equal, Op.maxDepth]
  simp only [Sem.run_bind, hr, Result.andThen_ok, Sem.run_pure]
theorem tr_nil (w : World) (base : Nat) : TR w base (.slice none 0 0) [] := World.ownsRow_nil _ _ _ _
theorem TR.app {w' : World} {base : Nat} {v' : Value} {l : Tl} {x : Kx × Int} (h : w'.ownsRow base 90 6 v' (l.length + 1) (l.flatMap tV ++ [.int .i64 x.1.1, .int .i64 x.1.2.1, .int .i64 x.1.2.2.1, .int .i64 x.1.2.2.2.1, .int .i64 x.1.2.2.2.2, .int .i64 x.2])) : TR w' base v' (l ++ [x]) := by
  unfold TR
  rw [List.length_append]
  have e7 : (l ++ [x]).flatMap tV = l.flatMap tV ++ [.int .i64 x.1.1, .int .i64 x.1.2.1, .int .i64 x.1.2.2.1, .int .i64 x.1.2.2.2.1, .int .i64 x.1.2.2.2.2, .int .i64 x.2] := by simp [tV, kV]
  rw [e7]; exact h
theorem Try.pinfo_timer : (Try.prog.info? 90).map (fun i => (i.zero, i.size, i.bytes)) = some (some (.agg #[.int .i64 0, .int .i64 0, .int .i64 0, .int .i64 0, .int .i64 0, .int .i64 0]), 6, 48) := by kernel_rfl
theorem six_new (w : World) (a b c d e f : Value) (t : TypeId) : ∀ j u, [a, b, c, d, e, f][j]? = some u → (w.alloc (.cells #[a, b, c, d, e, f] t)).cell? ((⟨w.heap.size, 0, none⟩ : Addr).add j) = some u := by
  intro j u hj
  match j, hj with
  | 0, hj => simp at hj; subst hj; simp [Addr.add]
  | 1, hj => simp at hj; subst hj; simp [Addr.add]
  | 2, hj => simp at hj; subst hj; simp [Addr.add]
  | 3, hj => simp at hj; subst hj; simp [Addr.add]
  | 4, hj => simp at hj; subst hj; simp [Addr.add]
  | 5, hj => simp at hj; subst hj; simp [Addr.add]
/-- A new list of timers is laid into the table. -/
theorem Rf.setLq {w wr : World} {pr : Nat} {Fp Fq : Nat → Prop} {R R' : Tl} {Hs : List Int} {v : Value} (h : Rf w pr Fp R Hs) (hb : Below w.heap.size w wr) (hv : TR wr w.heap.size v R') (hq : ∀ g, Fp g → g < w.heap.size → Fq g) (hq2 : ∀ g, v.ownBlock = some g → g < wr.heap.size → Fq g) : Rf (wr.setCell ⟨pr, 0, none⟩ v) pr Fq R' Hs ∧ Kq (fun g => g = pr ∨ Fp g) w (wr.setCell ⟨pr, 0, none⟩ v) := by
  have hl := h.lt
  obtain ⟨vl, vh, h1, h2, h3, h4, h5, h6⟩ := h.ex
  have K1 : Kq (· = pr) wr (wr.setCell ⟨pr, 0, none⟩ v) := (Kq.refl _ _).setC ⟨pr, 0, none⟩ v (.inl rfl)
  have h1' : wr.heap[pr]? = some (.cells #[vl, vh] 85 (0, 0)) := (hb.block pr hl).trans h1
  have h3' : IR wr (pr + 1) vh Hs := IR.keep (S := fun _ => False) h3 (Kq.of_below hb) (fun _ _ h => h)
  have h3'' : IR (wr.setCell ⟨pr, 0, none⟩ v) (pr + 1) vh Hs := IR.keep h3' K1 (fun g hg e => by have e' : g = pr := e; have := (World.ownsRow.lt h3' g hg).1; omega)
  have hv' : TR (wr.setCell ⟨pr, 0, none⟩ v) w.heap.size v R' := hv.keep K1 (fun g hg e => by have e' : g = pr := e; have := (World.ownsRow.lt hv g hg).1; omega)
  have hv'' : TR (wr.setCell ⟨pr, 0, none⟩ v) (pr + 1) v R' := by
    obtain ⟨q1, q2 | ⟨g, cap, cur, q3, q4, r⟩⟩ := hv'
    · exact ⟨q1, .inl q2⟩
    · exact ⟨q1, .inr ⟨g, cap, cur, q3, by omega, r⟩⟩
  refine ⟨⟨v, vh, heap_setCell_same wr pr 0 _ _ v h1', hv'', h3'', fun g hg e => ?_, fun g hg => hq2 g hg (World.ownsRow.lt hv g hg).2, fun g hg => hq g (h6 g hg) (World.ownsRow.lt h3 g hg).2⟩, ?_⟩
  · have q1 := (World.ownsRow.lt hv g hg).1
    have q2 := (World.ownsRow.lt h3 g e).2
    omega
  · exact (Kq.of_below hb).setC ⟨pr, 0, none⟩ v (.inl (.inl rfl))
theorem Rf.setL {w wr : World} {pr : Nat} {Fp : Nat → Prop} {R R' : Tl} {Hs : List Int} {v : Value} (h : Rf w pr Fp R Hs) (hb : Below w.heap.size w wr) (hv : TR wr w.heap.size v R') : Rf (wr.setCell ⟨pr, 0, none⟩ v) pr (grF Fp w (wr.setCell ⟨pr, 0, none⟩ v)) R' Hs ∧ Kq (fun g => g = pr ∨ Fp g) w (wr.setCell ⟨pr, 0, none⟩ v) :=
  h.setLq hb hv (fun g hg _ => .inl hg) (fun g hg hl => .inr ⟨(World.ownsRow.lt hv g hg).1, by simpa using hl⟩)

set_option maxHeartbeats 8000000 in
set_option maxRecDepth 100000 in
theorem stop2_any (pr : Nat) (Fp : Nat → Prop) (R : Tl) (Hs : List Int) (k : Kx) (w : World) (h : Rf w pr Fp R Hs) (hl : R.length < 2199023255552) (hw : ∀ x ∈ R, kW x.1) (hk : kW k) (hnd : (R.map Prod.fst).Nodup) :
    Calls Try.prog 44 #[.pointer (some ⟨pr, 0, none⟩), kA k] w fun e w' => e = .returned (.bool (decide (k ∈ R.map Prod.fst))) ∧ Rf w' pr (grF Fp w w') (delT R k) Hs ∧ Kq (fun g => g = pr ∨ Fp g) w w' := by
  have HR : Hid (Rf w pr Fp R Hs) := h
  obtain ⟨W, hW⟩ : ∃ W, w.alloc (kO k) = W := ⟨_, rfl⟩
  have hbW : Below w.heap.size w W := by rw [← hW]; exact (Below.refl _ _).alloc (Nat.le_refl _) _
  have HBW : Hid (Below w.heap.size w W) := hbW
  have hRW : Rf W pr Fp R Hs := h.keep (S := fun _ => False) (Kq.of_below hbW) (fun _ h => h.elim)
  have hF := find_any pr Fp R Hs k W hRW hl hw hk
  obtain ⟨m, hm⟩ : ∃ m, R.length = m := ⟨_, rfl⟩
  have HM : Hid (R.length = m) := hm
  rw [hm] at hl
  have hlt := h.lt
  have HNd : Hid (R.map Prod.fst).Nodup := hnd
  obtain ⟨i0, hi0, hz0, hz1, hz2⟩ := info_parts Try.pinfo_timer
  obtain ⟨k0, k1, k2, k3, k4⟩ := k
  have c0 : W.cell? ⟨w.heap.size, 0, none⟩ = some (.int .i64 k0) := by rw [← hW]; simp
  have c1 : W.cell? ⟨w.heap.size, 1, none⟩ = some (.int .i64 k1) := by rw [← hW]; simp
  have c2 : W.cell? ⟨w.heap.size, 2, none⟩ = some (.int .i64 k2) := by rw [← hW]; simp
  have c3 : W.cell? ⟨w.heap.size, 3, none⟩ = some (.int .i64 k3) := by rw [← hW]; simp
  have c4 : W.cell? ⟨w.heap.size, 4, none⟩ = some (.int .i64 k4) := by rw [← hW]; simp
  clear h hw hm hnd hbW hRW
  go_enter Try.func44, Try.ntmps44
  go_wp2_with fail
  refine hF.mono ?_
  rintro e w2 ⟨hor, hb2⟩
  have HB2 : Hid (Below w.heap.size w w2) := HBW.out.trans ⟨hb2.os, hb2.tape, hb2.output, hb2.size, fun g hg => hb2.block g (by have := HBW.out.size; omega)⟩
  have HA : Hid (∃ ai : Int, e = .returned (.int .i64 ai) ∧ decide (0 ≤ ai) = decide ((k0, k1, k2, k3, k4) ∈ R.map Prod.fst) ∧ ∀ (j : Nat) x, R[j]? = some x → ((j : Int) = ai ↔ x.1 = (k0, k1, k2, k3, k4))) := by
    rcases hor with ⟨i, rfl, ⟨c, hc⟩, _⟩ | ⟨rfl, hno⟩
    · have hki : (R.map Prod.fst)[i]? = some (k0, k1, k2, k3, k4) := by rw [List.getElem?_map, hc]; rfl
      refine ⟨i, rfl, decide_eq_decide.mpr ⟨fun _ => List.mem_of_getElem? hki, fun _ => by omega⟩, fun j x hx => ⟨fun e1 => ?_, fun e1 => ?_⟩⟩
      · have e2 : j = i := by omega
        subst e2
        rw [hc] at hx
        rw [← Option.some.inj hx]
      · have hkj : (R.map Prod.fst)[j]? = some (k0, k1, k2, k3, k4) := by rw [List.getElem?_map, hx, ← e1]; rfl
        have := (List.getElem?_inj (List.getElem?_eq_some_iff.mp hkj).1 HNd.out).mp (hkj.trans hki.symm)
        omega
    · refine ⟨-1, rfl, decide_eq_decide.mpr ⟨fun h => by omega, fun h => absurd h hno⟩, fun j x hx => ⟨fun e1 => by omega, fun e1 => ?_⟩⟩
      exact absurd (List.mem_map.mpr ⟨x, List.mem_of_getElem? hx, e1⟩) hno
  clear hor hb2 hF
  obtain ⟨ai, rfl, hd, hai⟩ := HA.out
  have HAi : Hid (∀ (j : Nat) x, R[j]? = some x → ((j : Int) = ai ↔ x.1 = (k0, k1, k2, k3, k4))) := hai
  have HD : Hid (decide (0 ≤ ai) = decide ((k0, k1, k2, k3, k4) ∈ R.map Prod.fst)) := hd
  clear HA hai hd hW
  go_wp2
  go_loopw [6, 7] (fun u v wr => ∃ j : Nat, v = .int .i64 j ∧ j ≤ m ∧ TR wr w.heap.size u (delT (R.take j) (k0, k1, k2, k3, k4)) ∧ Below w.heap.size w wr) (fun _ v _ => m - (intOf v).toNat)
  case atStart => exact ⟨0, rfl, by omega, tr_nil _ _, HB2.out⟩
  case round =>
    obtain ⟨j, rfl, hj, htr, hbr⟩ := hrel
    have HTr : Hid (TR wr w.heap.size _ (delT (R.take j) (k0, k1, k2, k3, k4))) := htr
    have HBr : Hid (Below w.heap.size w wr) := hbr
    clear htr hbr
    have hRr : Rf wr pr Fp R Hs := HR.out.keep (S := fun _ => False) (Kq.of_below HBr.out) (fun _ h => h.elim)
    obtain ⟨vl, vh, h1, h2, _⟩ := hRr.ex
    obtain ⟨al, cl, rfl⟩ := h2.shape
    rw [HM.out] at h1 h2
    have e5 : wr.cell? ⟨pr, 0, none⟩ = some (.slice al m cl) := by simp [World.cell?, h1]
    have fz5 : wr.frozen? ⟨pr, 0, none⟩ = false := frozen_of_row wr pr 0 _ _ h1
    have HT2 : Hid (TR wr (pr + 1) (.slice al m cl) R) := h2
    obtain ⟨au, cu, hu6⟩ := HTr.out.shape
    obtain ⟨mu, hmu⟩ : ∃ n, List.length (delT (R.take j) (k0, k1, k2, k3, k4)) = n := ⟨_, rfl⟩
    have HMu : Hid (List.length (delT (R.take j) (k0, k1, k2, k3, k4)) = mu) := hmu
    rw [hmu] at hu6
    subst hu6
    have hml : mu ≤ j := by rw [← hmu]; exact Nat.le_trans (List.length_filter_le _ _) (by rw [List.length_take]; exact Nat.min_le_left _ _)
    clear hRr h1 h2 hmu
    by_cases hjm : j = m
    · subst hjm
      have hz : ¬ (j : Int) < (j : Int) := by omega
      have hst := HR.out.setL HBr.out (by have := HTr.out; rw [← HM.out, List.take_length] at this; exact this)
      have HSt : Hid _ := hst
      clear hst
      go_wp2
      go_ret
      exact ⟨congrArg (fun b => Ending.returned (Value.bool b)) HD.out, HSt.out.1, HSt.out.2⟩
    · have hz : (j : Int) < (m : Int) := by omega
      have hwj : IntKind.i64.wrap ((j : Int) + 1) = (j : Int) + 1 := by rw [IntKind.wrap_i64]; omega
      obtain ⟨⟨x, c⟩, hx⟩ : ∃ x, R[j]? = some x := ⟨_, List.getElem?_eq_getElem (by rw [HM.out]; omega)⟩
      have hax := HAi.out j _ hx
      have htk : R.take (j + 1) = R.take j ++ [(x, c)] := by rw [List.take_add_one, hx]; rfl
      have HTk : Hid (R.take (j + 1) = R.take j ++ [(x, c)]) := htk
      obtain ⟨gk, capk, ek, _, _⟩ := HT2.out.some (by rw [HM.out]; omega)
      obtain ⟨rfl, hmm, rfl⟩ : al = some ⟨gk, 0, none⟩ ∧ m = R.length ∧ cl = capk := by simpa using ek
      obtain ⟨q0, q1, q2, q3, q4, q5⟩ := HT2.out.cells hx
      obtain ⟨x0, x1, x2, x3, x4⟩ := x
      simp only at q0 q1 q2 q3 q4 q5 hax
      clear hx ek hmm htk
      by_cases hja : (j : Int) = ai
      · have hxe := hax.mp hja
        have hb : ((j : Int) == ai) = true := by simp [hja]
        go_wp2
        refine ⟨⟨j + 1, by simp <;> omega, by omega, ?_, HBr.out⟩, by simp [intOf] <;> omega⟩
        have e8 : delT (R.take (j + 1)) (k0, k1, k2, k3, k4) = delT (R.take j) (k0, k1, k2, k3, k4) := by
          rw [HTk.out]
          unfold delT
          rw [List.filter_append]
          simp [hxe]
        rw [e8]
        exact HTr.out
      · have hxe : ¬ ((x0, x1, x2, x3, x4) : Kx) = (k0, k1, k2, k3, k4) := fun e => hja (hax.mpr e)
        have e8 : delT (R.take (j + 1)) (k0, k1, k2, k3, k4) = delT (R.take j) (k0, k1, k2, k3, k4) ++ [((x0, x1, x2, x3, x4), c)] := by
          rw [HTk.out]
          unfold delT
          rw [List.filter_append]
          simp only [List.filter_cons, List.filter_nil, ne_eq, hxe, not_false_eq_true, decide_true, if_true]
        have HE8 : Hid _ := e8
        clear e8 hxe hax
        have hbs : w.heap.size ≤ wr.heap.size := HBr.out.size
        go_wp2_with (first
          | (at_builtin; refine wpList_append_own_at _ rfl _ _ 83 rfl w.heap.size 90 i0 (.agg #[.int .i64 0, .int .i64 0, .int .i64 0, .int .i64 0, .int .i64 0, .int .i64 0]) 6 48 Try.underlying83 hi0 hz0 hz1 hz2 rfl (by decide) (.slice au mu cu) (delT (R.take j) (k0, k1, k2, k3, k4)).length ((delT (R.take j) (k0, k1, k2, k3, k4)).flatMap tV) rfl (World.ownsRow.alloc HTr.out _) ⟨wr.heap.size, 0, none⟩ 1 1 [.int .i64 x0, .int .i64 x1, .int .i64 x2, .int .i64 x3, .int .i64 x4, .int .i64 c] rfl rfl (six_new _ _ _ _ _ _ _ _) (by simp [Value.oneCell']) (by unfold maxLen; have := HMu.out; omega) (by have := HMu.out; omega) (by simp; omega) ?_
             intro v' w8 hown' hgrow hnil hloc; clear hnil)
          | go_in)
        have hgr8 := (World.grownBy_alloc wr (.cells #[.int .i64 x0, .int .i64 x1, .int .i64 x2, .int .i64 x3, .int .i64 x4, .int .i64 c] 90) (Value.slice au mu cu).ownBlock).trans hgrow
        have B8 : Below w.heap.size w w8 := ⟨hgr8.os.trans HBr.out.os, hgr8.tape.trans HBr.out.tape, hgr8.output.trans HBr.out.output, Nat.le_trans HBr.out.size hgr8.size, fun g hg => (hgr8.block g (by omega) (fun e => by have := (World.ownsRow.lt HTr.out g e.symm).1; omega)).trans (HBr.out.block g hg)⟩
        refine ⟨⟨j + 1, by simp, by omega, ?_, B8⟩, by simp [intOf]; omega⟩
        rw [HE8.out]
        exact TR.app hown'

theorem TR.base {w : World} {base base' : Nat} {v : Value} {l : Tl} (h : TR w base v l) (hb : base' ≤ base) : TR w base' v l := by
  obtain ⟨h1, h2 | ⟨g, cap, cur, h3, h4, r⟩⟩ := h
  · exact ⟨h1, .inl h2⟩
  · exact ⟨h1, .inr ⟨g, cap, cur, h3, by omega, r⟩⟩

set_option maxHeartbeats 8000000 in
set_option maxRecDepth 100000 in
theorem drop2_any (pr : Nat) (Fp : Nat → Prop) (R : Tl) (Hs : List Int) (s1 s2 : Int) (w : World) (h : Rf w pr Fp R Hs) (hl : R.length < 2199023255552) (hw : ∀ x ∈ R, kW x.1) (k1 : kI s1 = true) (k2 : kI s2 = true) :
    Calls Try.prog 46 #[.pointer (some ⟨pr, 0, none⟩), .agg #[.int .i64 s1, .int .i64 s2]] w fun e w' => e = .returned (.int .i64 ((R.length : Int) - ((notS s1 s2 R).length : Int))) ∧ Rf w' pr (grF Fp w w') (notS s1 s2 R) Hs ∧ Kq (fun g => g = pr ∨ Fp g) w w' := by
  have HR : Hid (Rf w pr Fp R Hs) := h
  obtain ⟨W, hW⟩ : ∃ W, w.alloc (.cells #[.int .i64 s1, .int .i64 s2] 49) = W := ⟨_, rfl⟩
  have hbW : Below w.heap.size w W := by rw [← hW]; exact (Below.refl _ _).alloc (Nat.le_refl _) _
  have HBW : Hid (Below w.heap.size w W) := hbW
  obtain ⟨m, hm⟩ : ∃ m, R.length = m := ⟨_, rfl⟩
  have HM : Hid (R.length = m) := hm
  have HWf : Hid (∀ x ∈ R, kW x.1) := hw
  rw [hm] at hl ⊢
  have hlt := h.lt
  obtain ⟨i0, hi0, hz0, hz1, hz2⟩ := info_parts Try.pinfo_timer
  have HC : Hid (W.cell? ⟨w.heap.size, 0, none⟩ = some (.int .i64 s1) ∧ W.cell? ⟨w.heap.size, 1, none⟩ = some (.int .i64 s2)) := ⟨by rw [← hW]; simp, by rw [← hW]; simp⟩
  clear h hw hm hbW
  go_enter Try.func46, Try.ntmps46
  go_wp2
  clear hW
  go_loopw [5, 6] (fun u v wr => ∃ j : Nat, v = .int .i64 j ∧ j ≤ m ∧ TR wr W.heap.size u (notS s1 s2 (R.take j)) ∧ Below W.heap.size W wr) (fun _ v _ => m - (intOf v).toNat)
  case atStart => exact ⟨0, rfl, by omega, tr_nil _ _, Below.refl _ _⟩
  case round =>
    obtain ⟨j, rfl, hj, htr, hbr⟩ := hrel
    have HTr : Hid (TR wr W.heap.size _ (notS s1 s2 (R.take j))) := htr
    have HBr : Hid (Below W.heap.size W wr) := hbr
    have HBw : Hid (Below w.heap.size w wr) := HBW.out.trans ⟨hbr.os, hbr.tape, hbr.output, hbr.size, fun g hg => hbr.block g (by have := HBW.out.size; omega)⟩
    clear htr hbr
    have hRr : Rf wr pr Fp R Hs := HR.out.keep (S := fun _ => False) (Kq.of_below HBw.out) (fun _ h => h.elim)
    obtain ⟨vl, vh, h1, h2, _⟩ := hRr.ex
    obtain ⟨al, cl, rfl⟩ := h2.shape
    rw [HM.out] at h1 h2
    have e5 : wr.cell? ⟨pr, 0, none⟩ = some (.slice al m cl) := by simp [World.cell?, h1]
    have fz5 : wr.frozen? ⟨pr, 0, none⟩ = false := frozen_of_row wr pr 0 _ _ h1
    have HT2 : Hid (TR wr (pr + 1) (.slice al m cl) R) := h2
    obtain ⟨au, cu, hu6⟩ := HTr.out.shape
    obtain ⟨mu, hmu⟩ : ∃ n, List.length (notS s1 s2 (R.take j)) = n := ⟨_, rfl⟩
    have HMu : Hid (List.length (notS s1 s2 (R.take j)) = mu) := hmu
    rw [hmu] at hu6
    subst hu6
    have hml : mu ≤ j := by rw [← hmu]; exact Nat.le_trans (List.length_filter_le _ _) (by rw [List.length_take]; exact Nat.min_le_left _ _)
    clear hRr h1 h2 hmu
    by_cases hjm : j = m
    · subst hjm
      have hz : ¬ (j : Int) < (j : Int) := by omega
      have htk : R.take j = R := by rw [← HM.out, List.take_length]
      have hst := HR.out.setL HBw.out (by have := HTr.out.base HBW.out.size; rw [htk] at this; exact this)
      have HSt : Hid _ := hst
      have hwm : IntKind.i64.wrap ((j : Int) - (mu : Int)) = (j : Int) - (mu : Int) := by rw [IntKind.wrap_i64]; omega
      have HLn : Hid ((notS s1 s2 R).length = mu) := by show _ = _; rw [← HMu.out, htk]
      clear hst htk
      go_wp2
      go_ret
      exact ⟨by rw [HLn.out]; rfl, HSt.out.1, HSt.out.2⟩
    · have hz : (j : Int) < (m : Int) := by omega
      have hwj : IntKind.i64.wrap ((j : Int) + 1) = (j : Int) + 1 := by rw [IntKind.wrap_i64]; omega
      obtain ⟨⟨x, c⟩, hx⟩ : ∃ x, R[j]? = some x := ⟨_, List.getElem?_eq_getElem (by rw [HM.out]; omega)⟩
      have hkx := HWf.out _ (List.mem_of_getElem? hx)
      have htk : R.take (j + 1) = R.take j ++ [(x, c)] := by rw [List.take_add_one, hx]; rfl
      obtain ⟨gk, capk, ek, _, _⟩ := HT2.out.some (by rw [HM.out]; omega)
      obtain ⟨rfl, hmm, rfl⟩ : al = some ⟨gk, 0, none⟩ ∧ m = R.length ∧ cl = capk := by simpa using ek
      obtain ⟨q0, q1, q2, q3, q4, q5⟩ := HT2.out.cells hx
      obtain ⟨x0, x1, x2, x3, x4⟩ := x
      simp only at q0 q1 q2 q3 q4 q5 hkx
      have d0 := (HBr.out.cell (p := ⟨w.heap.size, 0, none⟩) (World.block_lt_of_cell? W ⟨w.heap.size, 0, none⟩ HC.out.1)).trans HC.out.1
      have d1 := (HBr.out.cell (p := ⟨w.heap.size, 1, none⟩) (World.block_lt_of_cell? W ⟨w.heap.size, 1, none⟩ HC.out.2)).trans HC.out.2
      have heq := fun w => neq_ses hkx.2.1 hkx.2.2.1 k1 k2 w
      simp only at heq
      have hgd := eqGuard49
      obtain ⟨bq, hbq⟩ : ∃ b, (!decide (x1 = s1 ∧ x2 = s2)) = b := ⟨_, rfl⟩
      rw [hbq] at heq
      have HE8 : Hid (notS s1 s2 (R.take (j + 1)) = notS s1 s2 (R.take j) ++ (if bq = true then [((x0, x1, x2, x3, x4), c)] else [])) := by
        show _ = _
        rw [htk]
        unfold notS
        rw [List.filter_append]
        congr 1
        simp only [List.filter_cons, List.filter_nil, sesB, hbq]
      clear hx ek hmm htk hkx hbq
      have hbs : W.heap.size ≤ wr.heap.size := HBr.out.size
      go_wp2_with fail
      go_quiet (fail)
      obtain ⟨V, hV⟩ : ∃ V, wr.drewN nq = V := ⟨_, rfl⟩
      have VB : Hid (Below W.heap.size W V) := by rw [← hV]; exact below_drewN HBr.out _
      have VT : Hid (TR V W.heap.size (.slice au mu cu) (notS s1 s2 (R.take j))) := by rw [← hV]; exact HTr.out.keep (S := fun _ => False) ((Kq.refl _ _).drewN _) (fun _ _ h => h)
      have hVz : W.heap.size ≤ V.heap.size := VB.out.size
      have f0 : V.cell? ⟨gk, j * 6, none⟩ = some (.int .i64 x0) := by rw [← hV]; exact q0
      have f1 : V.cell? ⟨gk, j * 6 + 1, none⟩ = some (.int .i64 x1) := by rw [← hV]; exact q1
      have f2 : V.cell? ⟨gk, j * 6 + 2, none⟩ = some (.int .i64 x2) := by rw [← hV]; exact q2
      have f3 : V.cell? ⟨gk, j * 6 + 3, none⟩ = some (.int .i64 x3) := by rw [← hV]; exact q3
      have f4 : V.cell? ⟨gk, j * 6 + 4, none⟩ = some (.int .i64 x4) := by rw [← hV]; exact q4
      have f5 : V.cell? ⟨gk, j * 6 + 5, none⟩ = some (.int .i64 c) := by rw [← hV]; exact q5
      have f6 : V.cell? ⟨pr, 0, none⟩ = some (.slice (some ⟨gk, 0, none⟩) m cl) := by rw [← hV]; exact e5
      rw [hV]
      clear hV q0 q1 q2 q3 q4 q5 e5 fz5 d0 d1 heq
      cases bq with
      | false =>
        go_wp2
        refine ⟨⟨j + 1, by simp, by omega, ?_, VB.out⟩, by simp [intOf]; omega⟩
        rw [HE8.out]
        simp only [Bool.false_eq_true, if_false, List.append_nil]
        exact VT.out
      | true =>
        go_wp2_with (first
          | (at_builtin; refine wpList_append_own_at _ rfl _ _ 83 rfl W.heap.size 90 i0 (.agg #[.int .i64 0, .int .i64 0, .int .i64 0, .int .i64 0, .int .i64 0, .int .i64 0]) 6 48 Try.underlying83 hi0 hz0 hz1 hz2 rfl (by decide) (.slice au mu cu) (notS s1 s2 (R.take j)).length ((notS s1 s2 (R.take j)).flatMap tV) rfl (World.ownsRow.alloc VT.out _) ⟨V.heap.size, 0, none⟩ 1 1 [.int .i64 x0, .int .i64 x1, .int .i64 x2, .int .i64 x3, .int .i64 x4, .int .i64 c] rfl rfl (six_new _ _ _ _ _ _ _ _) (by simp [Value.oneCell']) (by unfold maxLen; have := HMu.out; omega) (by have := HMu.out; omega) (by simp; omega) ?_
             intro v' w8 hown' hgrow hnil hloc; clear hnil)
          | go_in)
        have hgr8 := (World.grownBy_alloc V (.cells #[.int .i64 x0, .int .i64 x1, .int .i64 x2, .int .i64 x3, .int .i64 x4, .int .i64 c] 90) (Value.slice au mu cu).ownBlock).trans hgrow
        have B8 : Below W.heap.size W w8 := ⟨hgr8.os.trans VB.out.os, hgr8.tape.trans VB.out.tape, hgr8.output.trans VB.out.output, Nat.le_trans VB.out.size hgr8.size, fun g hg => (hgr8.block g (by omega) (fun e => by have := (World.ownsRow.lt VT.out g e.symm).1; omega)).trans (VB.out.block g hg)⟩
        refine ⟨⟨j + 1, by simp, by omega, ?_, B8⟩, by simp [intOf]; omega⟩
        rw [HE8.out]
        exact TR.app hown'

end Go.Proofs.Ytnclfoljfnfglai
