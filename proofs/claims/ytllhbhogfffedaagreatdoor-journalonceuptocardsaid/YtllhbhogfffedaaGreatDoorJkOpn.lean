import Derived.Test.YtllhbhogfffedaaGreatDoorRcScn
import Derived.WalkSmall
import Derived.Deep.RegionWith
namespace Go.Proofs.YtllhbhogfffedaaGreatDoor.K
open Go.RowKit
set_option linter.unusedVariables false
set_option linter.unusedSimpArgs false

theorem evD_some {aD aF aN : Addr} {r : Nat} (h : r ≠ 0) : ∃ a, evD aD aF aN r = .iface 218 (.pointer (some a)) := by
  unfold evD
  rw [if_neg h]
  split
  · exact ⟨_, rfl⟩
  · split <;> exact ⟨_, rfl⟩
theorem rd_get {D : Dk} {s : ByteArray} : rdB D s = [] ∨ ∃ (i : Nat) (f : Fl), D.fs[i]? = some f ∧ rdB D s = f.bs := by
  unfold rdB
  split
  · exact .inl rfl
  · split
    · exact .inl rfl
    · rename_i i _
      cases h : D.fs[i]? with
      | none => exact .inl rfl
      | some f => exact .inr ⟨i, f, h, rfl⟩
theorem rd_byt {D : Dk} {B : Nat} (h : D.Ok B) (s : ByteArray) : Bytey (rdB D s) ∧ (rdB D s).length ≤ B := by
  rcases rd_get (D := D) (s := s) with e | ⟨i, f, hf, e⟩
  · rw [e]; exact ⟨fun z hz => (by cases hz), Nat.zero_le _⟩
  · rw [e]
    exact ⟨(h.fs f (List.mem_of_getElem? hf)).byt, Nat.le_trans (usd_get hf) h.used⟩
theorem own_low7 {w : World} {b b' n sz : Nat} {e : TypeId} {v : Value} {xs : List Value} (h : w.ownsRow b e sz v n xs) (hb : b' ≤ b) : w.ownsRow b' e sz v n xs := by
  obtain ⟨h1, h2⟩ := h
  refine ⟨h1, ?_⟩
  rcases h2 with h2 | ⟨g, cap, cur, hv, hg, r⟩
  · exact .inl h2
  · exact .inr ⟨g, cap, cur, hv, by omega, r⟩
theorem rl_keep {w w' : World} {lo lo' : Nat} {v : Value} {os : List Ro} (h : Rl w lo v os) (hl : lo' ≤ lo) (hb : ∀ k, lo ≤ k → k < w.heap.size → w'.heap[k]? = w.heap[k]?) : Rl w' lo' v os :=
  ⟨⟨fun p hp => own_low7 (d_blk (h.fam.own p hp) (fun g hg => hb g (h.lt hp hg).1 (h.lt hp hg).2)) hl, h.fam.sep, h.fam.new⟩, h.sml⟩
/-- The sentinels, with the footprint that a call leaves. -/
theorem Snt.fc {w V : World} {F : Nat → Prop} {aD aF aN : Addr} (h : Snt w F aD aF aN) (hk : Kd F w V) : Snt V (K.fc (up F w) V) aD aF aN := by
  have k : ∀ {a : Addr}, ((∃ (ca : Array Value) (ta : TypeId), w.heap[a.block]? = some (.cells ca ta (0, 0))) ∧ ¬ F a.block) → ((∃ (ca : Array Value) (ta : TypeId), V.heap[a.block]? = some (.cells ca ta (0, 0))) ∧ ¬ K.fc (up F w) V a.block) := fun ⟨⟨ca, ta, hh⟩, hn⟩ => ⟨⟨ca, ta, (hk.same _ (Array.getElem?_eq_some_iff.1 hh).1 hn).trans hh⟩, fun q => q.1.elim hn (fun q => by have := (Array.getElem?_eq_some_iff.1 hh).1; omega)⟩
  have g : ∀ {b : Nat} {v : Value}, w.cell? ⟨b, 0, none⟩ = some v → ¬ F b → ¬ K.fc (up F w) V b := fun hc hn q => q.1.elim hn (fun q => by have := World.block_lt_of_cell? w ⟨_, 0, none⟩ hc; simp only at this; omega)
  exact ⟨h.er.kd hk h.nf, ⟨g h.er.d h.nf.1, g h.er.f h.nf.2.1, g h.er.n h.nf.2.2⟩, h.df, h.dn, h.fn, k h.cD, k h.cF, k h.cN⟩
theorem tab6_kd {w V : World} {F : Nat → Prop} (h : Tab6 w) (hk : Kd F w V) (hn : ¬ F 4) : Tab6 V := fun i hi => hk.cell (h i hi) hn
theorem Kd.next {F G : Nat → Prop} {a b c : World} (h : Kd F a b) (h' : Kd G b c) (hg : ∀ k, G k → F k ∨ a.heap.size ≤ k) : Kd F a c :=
  ⟨h'.os.trans h.os, h'.tape.trans h.tape, h'.output.trans h.output, Nat.le_trans h.size h'.size, fun k hk hn => (h'.same k (Nat.lt_of_lt_of_le hk h.size) (fun q => (hg k q).elim hn (fun q => by omega))).trans (h.same k hk hn)⟩
theorem cell_lt {w : World} {b i : Nat} {v : Value} (h : w.cell? ⟨b, i, none⟩ = some v) : b < w.heap.size := World.block_lt_of_cell? w ⟨b, i, none⟩ h

/-- What Open answers: the journal in a block of its own, the records in memory of their own. -/
structure OpJ (w w' : World) (d : Nat) (F' : Nat → Prop) (O : Opn) (pj v : Value) : Prop where
  no : O.r ≠ 0 → pj = .pointer none ∧ v = .slice none 0 0
  yes : O.r = 0 → ∃ j os, pj = .pointer (some ⟨j, 0, none⟩) ∧ w.heap.size ≤ j ∧ w'.heap[j]? = some (.cells #[.pointer (some ⟨d, 0, none⟩), .int .i64 (O.n : Nat), .int .i64 (O.k : Nat), .bool false] 100) ∧ ¬ F' j ∧ Rl w' w.heap.size v os ∧ os.map Ro.r = O.l ∧ ∀ p k, p < 3 + 2 * os.length → (rlF v os p).v.ownBlock = some k → ¬ F' k ∧ k ≠ j
def OpP (w : World) (d x : Nat) (F : Nat → Prop) (O : Opn) (aD aF aN : Addr) (e : Ending) (w' : World) : Prop :=
  ∃ pj v F', e = .returned (.tuple #[pj, v, evD aD aF aN O.r]) ∧ Dm w' x F' O.d ∧ (∀ k, F' k → F k ∨ w.heap.size ≤ k) ∧ Kd F w w' ∧ OpJ w w' d F' O pj v
theorem OpP.err {w w' : World} {d x : Nat} {F F' : Nat → Prop} {O : Opn} {aD aF aN : Addr} {e : Ending} {ev : Value} {r : Nat} (hr : O.r = r) (hr0 : r ≠ 0) (hev : evD aD aF aN r = ev) (he : e = .returned (.tuple #[.pointer none, .slice none 0 0, ev])) (hD : Dm w' x F' O.d) (hF : ∀ k, F' k → F k ∨ w.heap.size ≤ k) (hK : Kd F w w') : OpP w d x F O aD aF aN e w' :=
  ⟨_, _, F', by rw [hr, hev]; exact he, hD, hF, hK, ⟨fun _ => ⟨rfl, rfl⟩, fun h => absurd (hr.symm.trans h) hr0⟩⟩

set_option maxHeartbeats 8000000 in
set_option maxRecDepth 100000 in
theorem open_any (w : World) (d x : Nat) (F : Nat → Prop) (D : Dk) (B : Nat) (aD aF aN : Addr) (h : Dm w x F D) (hk : D.Ok B) (hB : B ≤ 1099511627776) (hd : w.cell? ⟨d, 0, none⟩ = some (.pointer (some ⟨x, 0, none⟩))) (nd : ¬ F d) (hS : Snt w F aD aF aN) (hT : Tab6 w) (nT : ¬ F 4) :
    Calls Tryz.prog 12 #[.pointer (some ⟨d, 0, none⟩)] w fun e w' => OpP w d x F (opX D) aD aF aN e w' := by
  have HR := removeRest_any w d x F D B aD aF aN h hk hB hd nd hS
  obtain ⟨O, hO⟩ : ∃ O, opX D = O := ⟨_, rfl⟩
  have hok : (rmD D).1.Ok B := ok_file hk (fun i => fsok_erase hk.files)
  have hr3 : (rmD D).2 ≤ 3 := fileD_r ..
  rw [hO]
  obtain ⟨⟨D1, r0⟩, hR⟩ : ∃ R : Dk × Nat, rmD D = R := ⟨_, rfl⟩
  unfold opX at hO
  rw [hR] at hO hok hr3
  rw [show fileD D jnN (fun i => D.fs.eraseIdx i) = (D1, r0) from hR] at HR
  simp only at hO hok hr3 HR
  by_cases hr : rmE r0 = 0
  case neg =>
    rw [if_neg hr] at hO
    have HO : Hid (O.d = D1 ∧ O.r = rmE r0) := by rw [← hO]; exact ⟨rfl, rfl⟩
    obtain ⟨a, hev⟩ := evD_some (aD := aD) (aF := aF) (aN := aN) hr
    have HEV : Hid (evD aD aF aN (rmE r0) = .iface 218 (.pointer (some a)) ∧ rmE r0 ≠ 0) := ⟨hev, hr⟩
    rw [hev] at HR
    clear hev hO hok hr hd hS hT h hk hR hr3
    go_enter Tryz.func12, Tryz.ntmps12
    go_wp2_with (go_at_call 39; refine HR.mono ?_; rintro e w1 ⟨rfl, hD1, hK1⟩; have HW : Hid (Dm w1 x (up F w) D1 ∧ Kd F w w1) := ⟨hD1, hK1⟩; clear hD1 hK1)
    refine bodyPost_ret (v := .tuple #[.pointer none, .slice none 0 0, .iface 218 (.pointer (some a))]) (by simp [results, Tryz.results12, go_sem]) rfl ?_
    exact OpP.err HO.out.2 HEV.out.2 HEV.out.1 rfl (by rw [HO.out.1]; exact HW.out.1) (fun k q => q) HW.out.2
  case pos =>
    rw [if_pos hr] at hO
    rw [hr, show evD aD aF aN 0 = .nilIface from rfl] at HR
    have H0 : Hid (w.cell? ⟨d, 0, none⟩ = some (.pointer (some ⟨x, 0, none⟩)) ∧ ¬ F d ∧ Snt w F aD aF aN ∧ Tab6 w ∧ ¬ F 4 ∧ D1.Ok B) := ⟨hd, nd, hS, hT, nT, hok⟩
    have HO : Hid (opB D1 = O) := hO
    clear hO hok hr hd hS hT h hk hR hr3 nd nT
    go_enter Tryz.func12, Tryz.ntmps12
    go_wp2_with fail
    refine HR.mono ?_
    clear HR
    rintro e w1 ⟨rfl, hDm, hK1⟩
    have hS1 := H0.out.2.2.1.fc hK1
    have hd1 := hK1.cell H0.out.1 H0.out.2.1
    have hT1 := tab6_kd H0.out.2.2.2.1 hK1 H0.out.2.2.2.2.1
    obtain ⟨F1, hF1⟩ : ∃ F1, fc (up F w) w1 = F1 := ⟨_, rfl⟩
    have hDm1 := hDm.fc
    rw [hF1] at hDm1 hS1
    have hw1 := hK1.size
    have nd1 : ¬ F1 d := fun q => by rw [← hF1] at q; exact q.1.elim H0.out.2.1 (fun q => by have := cell_lt H0.out.1; omega)
    have HF1 : Hid (∀ k, F1 k → (F k ∨ w.heap.size ≤ k) ∧ k < w1.heap.size) := fun k q => by rw [← hF1] at q; exact q
    have HA := jread_any w1 d x F1 D1 B aD aF aN hDm1 H0.out.2.2.2.2.2 hB hd1 hS1
    have H1 : Hid (w1.cell? ⟨d, 0, none⟩ = some (.pointer (some ⟨x, 0, none⟩)) ∧ ¬ F1 d ∧ Snt w1 F1 aD aF aN ∧ Tab6 w1 ∧ Dm w1 x F1 D1 ∧ Kd F w w1) := ⟨hd1, nd1, hS1, hT1, hDm1, hK1⟩
    obtain ⟨hby, hbl⟩ := rd_byt H0.out.2.2.2.2.2 jN
    have hO := HO.out
    unfold opB at hO
    unfold JrP at HA
    obtain ⟨bs, hbs⟩ : ∃ bs, rdB D1 jN = bs := ⟨_, rfl⟩
    rw [hbs] at hby hbl HA hO
    clear hDm hK1 hd1 nd1 hS1 hT1 hDm1 hF1 HO
    by_cases hr : rmE (rdN D1 jN) = 0
    case neg =>
      rw [if_neg hr] at hO
      have HO : Hid (O.d = D1 ∧ O.r = rmE (rdN D1 jN)) := by rw [← hO]; exact ⟨rfl, rfl⟩
      obtain ⟨a, hev⟩ := evD_some (aD := aD) (aF := aF) (aN := aN) hr
      have HEV : Hid (evD aD aF aN (rmE (rdN D1 jN)) = .iface 218 (.pointer (some a)) ∧ rmE (rdN D1 jN) ≠ 0) := ⟨hev, hr⟩
      rw [hev] at HA
      clear hev hO hr hby hbl hbs
      go_wp2_with (go_at_call 40; refine HA.mono ?_; rintro e w2 ⟨v2, rfl, ho2, hb2⟩; obtain ⟨a2, c2, hv2⟩ := d_shape ho2; subst hv2; have HW : Hid (Below w1.heap.size w1 w2) := hb2; clear ho2 hb2)
      refine bodyPost_ret (v := .tuple #[.pointer none, .slice none 0 0, .iface 218 (.pointer (some a))]) (by simp [results, Tryz.results12, go_sem]) rfl ?_
      exact OpP.err HO.out.2 HEV.out.2 HEV.out.1 rfl (by rw [HO.out.1]; exact H1.out.2.2.2.2.1.below HW.out) (fun k q => (HF1.out k q).1) (H1.out.2.2.2.2.2.trans (Kd.below HW.out))
    case pos =>
      rw [if_pos hr] at hO
      rw [hr, show evD aD aF aN 0 = .nilIface from rfl] at HA
      have HO : Hid (opC D1 bs = O) := hO
      clear hO hr
      go_wp2_with fail
      refine HA.mono ?_
      clear HA
      rintro e w2 ⟨v2, rfl, ho2, hb2⟩
      obtain ⟨a2, c2, hv2⟩ := d_shape ho2
      subst hv2
      obtain ⟨hz2, hn2, hc2, hl2⟩ := lies_own (own_low7 ho2 (Nat.zero_le _))
      have hcm : c2 ≤ 9223372036854775807 := by
        obtain ⟨_, ⟨e, _⟩ | ⟨g, cap, cur, e, _, _, _, hm, _⟩⟩ := ho2
        · obtain ⟨_, _, e3⟩ := Value.slice.inj e; rw [e3]; omega
        · obtain ⟨_, _, e3⟩ := Value.slice.inj e; rw [e3]; exact hm
      have had : a2 = none ∧ c2 = 0 ∨ ∃ g off, a2 = some ⟨g, off, none⟩ := by
        obtain ⟨_, ⟨e, _⟩ | ⟨g, cap, cur, e, _⟩⟩ := ho2
        · obtain ⟨e1, _, e3⟩ := Value.slice.inj e; exact .inl ⟨e1, e3⟩
        · obtain ⟨e1, _, e3⟩ := Value.slice.inj e; exact .inr ⟨_, _, e1⟩
      have HS := scan_any a2 bs bs.length c2 w2 (H1.out.2.2.2.1.below hb2 (tab6_pos H1.out.2.2.2.1)) hby rfl hc2 hcm (by omega) hz2 had
      have hsl := scR_len hby
      have hw2 := hb2.size
      unfold ScPost at HS
      have H2 : Hid (Below w1.heap.size w1 w2) := hb2
      clear ho2 hb2 hz2 hn2 had hcm
      have hO := HO.out
      unfold opC at hO
      clear HO
      obtain ⟨⟨ql, qn⟩, hq⟩ : ∃ q : List Rc × Nat, scR bs = q := ⟨_, rfl⟩
      rw [hq] at HS hsl hO
      simp only at HS hsl hO
      obtain ⟨m, hm⟩ : ∃ m, bs.length = m := ⟨_, rfl⟩
      rw [hm] at hO hsl hbl hl2 hc2 HS ⊢
      clear hm hq hbs hby
      go_wp2_with fail
      refine HS.mono ?_
      clear HS
      rintro e w3 ⟨v3, os, rfl, hrl, hom, hb3⟩
      obtain ⟨a3, c3, hv3⟩ := d_shape hrl.row
      have hw3 := hb3.size
      have HW3 : Hid (Rl w3 w2.heap.size v3 os ∧ os.map Ro.r = ql ∧ Below w1.heap.size w1 w3) := ⟨hrl, hom, H2.out.trans (hb3.mono hw2)⟩
      clear hrl hom hb3 H2
      by_cases hlt : qn < m
      case neg =>
        rw [if_neg hlt] at hO
        have HO : Hid (O = ⟨D1, 0, ql, qn, qn⟩) := hO.symm
        have hle : ¬ (qn : Int) < (m : Int) := by omega
        clear hO hlt
        obtain ⟨nos, hnos⟩ : ∃ nos, os.length = nos := ⟨_, rfl⟩
        rw [hnos] at hv3
        clear hnos
        have HV3 : Hid (Value.slice a3 nos c3 = v3) := hv3.symm
        rw [hv3]
        clear hv3
        go_wp2
        refine bodyPost_ret (v := .tuple #[.pointer (some ⟨w3.heap.size, 0, none⟩), .slice a3 nos c3, .nilIface]) (by simp [results, Tryz.results12, go_sem]) rfl ?_
        have hb4 : Below w3.heap.size w3 (w3.alloc (.cells #[.pointer (some ⟨d, 0, none⟩), .int .i64 qn, .int .i64 qn, .bool false] 100)) := (Below.refl _ _).alloc (Nat.le_refl _) _
        rw [HO.out]
        refine ⟨_, v3, F1, by rw [HV3.out]; rfl, (H1.out.2.2.2.2.1.below HW3.out.2.2).below hb4, fun k q => (HF1.out k q).1, (H1.out.2.2.2.2.2.trans (Kd.below HW3.out.2.2)).trans (Kd.below hb4), fun h => absurd rfl h, fun _ => ⟨w3.heap.size, os, rfl, by omega, heap_new6 w3 _, fun q => by have := (HF1.out _ q).2; omega, rl_keep HW3.out.1 (by omega) (fun k _ hk => hb4.block k hk), HW3.out.2.1, fun p k hp hk => ?_⟩⟩
        have := HW3.out.1.lt hp hk
        exact ⟨fun q => by have := (HF1.out _ q).2; omega, by omega⟩
      case pos =>
        rw [if_pos hlt] at hO
        have hle : (qn : Int) < (m : Int) := by omega
        have hdm3 : Dm w3 x F1 D1 := H1.out.2.2.2.2.1.below HW3.out.2.2
        have hS3 := H1.out.2.2.1.kd (Kd.below HW3.out.2.2)
        have HC := dCut_any w3 d x F1 D1 jN (qn : Nat) B aD aF aN hdm3 H0.out.2.2.2.2.2 hB (bel_cell HW3.out.2.2 H1.out.1) H1.out.2.1 hS3.er hS3.nf
        obtain ⟨⟨D2, r2⟩, hR2⟩ : ∃ R : Dk × Nat, fileD D1 jN (fun i => cutF D1.fs i (qn : Nat)) = R := ⟨_, rfl⟩
        unfold MP at HC
        rw [hR2] at HC hO
        simp only at HC hO
        unfold jN at HC
        have HR2 : Hid True := trivial
        clear hdm3 hS3 hR2
        obtain ⟨nos, hnos⟩ : ∃ nos, os.length = nos := ⟨_, rfl⟩
        rw [hnos] at hv3
        clear hnos
        have HV3 : Hid (Value.slice a3 nos c3 = v3) := hv3.symm
        rw [hv3]
        clear hv3 hlt
        by_cases hr : r2 = 0
        case neg =>
          rw [if_neg hr] at hO
          have HO : Hid (O.d = D2 ∧ O.r = r2) := by rw [← hO]; exact ⟨rfl, rfl⟩
          obtain ⟨a, hev⟩ := evD_some (aD := aD) (aF := aF) (aN := aN) hr
          have HEV : Hid (evD aD aF aN r2 = .iface 218 (.pointer (some a)) ∧ r2 ≠ 0) := ⟨hev, hr⟩
          rw [hev] at HC
          clear hev hO hr
          go_wp2_with (go_at_call 42; refine HC.mono ?_; rintro e w4 ⟨rfl, hD4, hK4⟩; have HW : Hid (Dm w4 x (up F1 w3) D2 ∧ Kd F1 w3 w4) := ⟨hD4, hK4⟩; clear hD4 hK4)
          refine bodyPost_ret (v := .tuple #[.pointer none, .slice none 0 0, .iface 218 (.pointer (some a))]) (by simp [results, Tryz.results12, go_sem]) rfl ?_
          exact OpP.err HO.out.2 HEV.out.2 HEV.out.1 rfl (by rw [HO.out.1]; exact HW.out.1) (fun k q => Or.elim q (fun q => (HF1.out k q).1) (fun q => .inr (by omega))) (Kd.next (H1.out.2.2.2.2.2.trans (Kd.below HW3.out.2.2)) HW.out.2 (fun k q => (HF1.out k q).1))
        case pos =>
          rw [if_pos hr] at hO
          have HO : Hid (O = ⟨D2, 0, ql, qn, 0⟩) := hO.symm
          rw [hr, show evD aD aF aN 0 = .nilIface from rfl] at HC
          clear hO hr
          go_wp2_with (go_at_call 42; refine HC.mono ?_; rintro e w4 ⟨rfl, hD4, hK4⟩; have HW : Hid (Dm w4 x (up F1 w3) D2 ∧ Kd F1 w3 w4) := ⟨hD4, hK4⟩; clear hD4 hK4)
          refine bodyPost_ret (v := .tuple #[.pointer (some ⟨w4.heap.size, 0, none⟩), .slice a3 nos c3, .nilIface]) (by simp [results, Tryz.results12, go_sem]) rfl ?_
          have hw4 := HW.out.2.size
          have hb5 : Below w4.heap.size w4 (w4.alloc (.cells #[.pointer (some ⟨d, 0, none⟩), .int .i64 qn, .int .i64 0, .bool false] 100)) := (Below.refl _ _).alloc (Nat.le_refl _) _
          rw [HO.out]
          refine ⟨_, v3, fc (up F1 w3) w4, by rw [HV3.out]; rfl, HW.out.1.fc.below hb5, fun k q => Or.elim q.1 (fun q => (HF1.out k q).1) (fun q => .inr (by omega)), (Kd.next (H1.out.2.2.2.2.2.trans (Kd.below HW3.out.2.2)) HW.out.2 (fun k q => (HF1.out k q).1)).trans (Kd.below hb5), fun h => absurd rfl h, fun _ => ⟨w4.heap.size, os, rfl, by omega, heap_new6 w4 _, fun q => by have := q.2; omega, rl_keep HW3.out.1 (by omega) (fun k hk1 hk2 => (hb5.block k (by omega)).trans (HW.out.2.same k hk2 (fun q => by have := (HF1.out _ q).2; omega))), HW3.out.2.1, fun p k hp hk => ?_⟩⟩
          have := HW3.out.1.lt hp hk
          exact ⟨fun q => Or.elim q.1 (fun q => by have := (HF1.out _ q).2; omega) (fun q => by omega), by omega⟩
end Go.Proofs.YtllhbhogfffedaaGreatDoor.K

namespace Go.Proofs.YtllhbhogfffedaaGreatDoor.C
open Go.RowKit Go.Shelf
set_option linter.unusedVariables false
set_option linter.unusedSimpArgs false

theorem Spa.drewN7 {w : World} {a : Option Addr} {l : List Sp} (h : Spa w a l) (n : Nat) : Spa (w.drewN n) a l := h
def Lp57 (Z : World) (N : Nat) (v : Value) (w : World) : Prop := ∃ p nd : Nat, v = .int .i64 p ∧ p ≤ N ∧ w = Z.drewN nd
theorem lp57 {Z : World} {N p nd : Nat} {v : Value} (hv : v = .int .i64 p) (h : p ≤ N) : Lp57 Z N v (Z.drewN nd) := ⟨p, nd, hv, h, rfl⟩

set_option maxHeartbeats 4000000 in
set_option maxRecDepth 100000 in
/-- SAME SPANS of layer 7, of two lists that say the same. -/
theorem sameSpans7_eq (a b : Option Addr) (c d n : Nat) (l : List Sp) (w : World) (hn : l.length = n) (hm : n ≤ 4611686018427387903) (h : Spa w a l) (h' : Spa w b l) :
    Calls Tryz.prog 89 #[.slice a n c, .slice b n d] w fun e w' => e = .returned (.bool true) ∧ ∃ nd, w' = w.drewN nd := by
  have HN : Hid (l.length = n) := hn
  have HS : Hid (Spa w a l) := h
  have HS' : Hid (Spa w b l) := h'
  clear hn h h'
  go_enter Tryz.func89, Tryz.ntmps89
  obtain ⟨Z, hZ⟩ : ∃ Z, w = Z := ⟨_, rfl⟩
  rw [hZ] at HS HS' ⊢
  clear hZ
  go_wp2_with fail
  go_loopw [5] (fun v wr => Lp57 Z n v wr) (fun v _ => n - (intOf v).toNat)
  case atStart => exact lp57 (nd := 0) (p := 0) rfl (by omega)
  case round =>
    obtain ⟨k, nd, rfl, hk, hwr⟩ := hrel
    have HW : Hid (wr = Z.drewN nd) := hwr
    have HA : Hid (Spa wr a l) := by show Spa _ _ _; rw [hwr]; exact HS.out.drewN7 _
    have HA' : Hid (Spa wr b l) := by show Spa _ _ _; rw [hwr]; exact HS'.out.drewN7 _
    clear hwr
    by_cases hlt : k = n
    · subst hlt
      have hz : ¬ (k : Int) < (k : Int) := by omega
      go_wp2
      go_ret
      exact ⟨rfl, _, HW.out⟩
    · have hlt' : (k : Int) < (n : Int) := by omega
      have hwk : IntKind.i64.wrap ((k : Int) + 1) = (k : Int) + 1 := by rw [IntKind.wrap_i64]; omega
      obtain ⟨⟨p1, p2⟩, hp⟩ : ∃ p, l[k]? = some p := ⟨_, List.getElem?_eq_getElem (by rw [HN.out]; omega)⟩
      obtain ⟨g, off, rfl, q1, q2⟩ := HA.out.at hp
      obtain ⟨g', off', rfl, r1, r2⟩ := HA'.out.at hp
      simp only at q1 q2 r1 r2
      clear hp
      go_wp2_with fail
      go_quiet (fail)
      go_wp2
      exact ⟨by rw [HW.out, World.drewN_drewN]; exact lp57 (p := k + 1) (by simp) (by omega), by simp [intOf]; omega⟩

end Go.Proofs.YtllhbhogfffedaaGreatDoor.C

namespace Go.Proofs.YtllhbhogfffedaaGreatDoor
open Go.RowKit
set_option linter.unusedVariables false
set_option linter.unusedSimpArgs false

theorem conv7 (W : World) (a : Option Addr) (n cap : Nat) (xs : List Int) (hl : xs.length = n) (hc : Lies .u8 W a xs) :
    (convert 35 9 (.slice a n cap)).run Tryz.prog W = .ok (.string (strOfNums xs)) W := by
  rcases hc with rfl | ⟨b, off, rfl, h⟩
  · obtain rfl : n = 0 := by simpa using hl.symm
    cases a with
    | none => exact run_convert_bytes_nil (P := Tryz.prog) W 35 5 Tryz.underlying35 Tryz.underlying5 0 cap 9 Tryz.underlying9
    | some x =>
      have hl0 := run_loadCells_list (P := Tryz.prog) W x ([].map (Value.int .u8)) (fun j v hj => by simp at hj)
      rw [run_convert_bytes_string W 35 9 5 _ 0 cap Tryz.underlying35 Tryz.underlying5 Tryz.underlying9, run_bytesToString W x 0 cap [] hl0]
      rfl
  · exact run_convert_bytes_arg (P := Tryz.prog) W 35 5 Tryz.underlying35 Tryz.underlying5 b off n cap xs hl (fun i hi => h i (by omega)) 9 Tryz.underlying9

set_option maxRecDepth 100000 in
set_option maxHeartbeats 4000000 in
/-- Two records that say the same: sameRecord says so. -/
theorem sameRec7_eq (r : Rc) (sa da sb db : Option Addr) (ns nd sc dc tc ec : Nat) (w : World) (ha : RIn w r sa da ns nd sc dc) (hb : RIn w r sb db ns nd tc ec) (hns : ns ≤ 4611686018427387903) :
    Calls Tryz.prog 55 #[.agg (rcC r (.slice sa ns sc) (.slice da nd dc)), .agg (rcC r (.slice sb ns tc) (.slice db nd ec))] w fun e w' => e = .returned (.bool true) ∧ Below w.heap.size w w' := by
  have HB : Hid (Below w.heap.size w ((w.alloc (rcO r (.slice sa ns sc) (.slice da nd dc))).alloc (rcO r (.slice sb ns tc) (.slice db nd ec)))) := ((Below.refl _ _).alloc (Nat.le_refl _) _).alloc (by simp) _
  have HX : Hid (((w.alloc (rcO r (.slice sa ns sc) (.slice da nd dc))).alloc (rcO r (.slice sb ns tc) (.slice db nd ec))).heap[w.heap.size]? = some (rcO r (.slice sa ns sc) (.slice da nd dc))) := (((Below.refl _ _).alloc (Nat.le_refl _) _).block _ (by simp)).trans (heap_new6 w _)
  have HY : Hid (((w.alloc (rcO r (.slice sa ns sc) (.slice da nd dc))).alloc (rcO r (.slice sb ns tc) (.slice db nd ec))).heap[w.heap.size + 1]? = some (rcO r (.slice sb ns tc) (.slice db nd ec))) := by
    unfold Hid
    have := heap_new6 (w.alloc (rcO r (.slice sa ns sc) (.slice da nd dc))) (rcO r (.slice sb ns tc) (.slice db nd ec))
    simpa using this
  have HRA : Hid (RIn w r sa da ns nd sc dc) := ha
  have HRB : Hid (RIn w r sb db ns nd tc ec) := hb
  clear ha hb
  go_enter Tryz.func55, Tryz.ntmps55
  go_wp2_with fail
  generalize (w.alloc (rcO r (.slice sa ns sc) (.slice da nd dc))).alloc (rcO r (.slice sb ns tc) (.slice db nd ec)) = w1 at *
  have HSS := C.sameSpans7_eq sa sb sc tc ns r.spans w1 HRA.out.spn (by omega) (HRA.out.spin w1 HB.out) (HRB.out.spin w1 HB.out)
  have hx := rc_cells HX.out
  have hy := rc_cells HY.out
  obtain ⟨c0, c1, c2, c3, c4, c5, c6, c7, c8, c9, c10⟩ := hx
  obtain ⟨d0, d1, d2, d3, d4, d5, d6, d7, d8, d9, d10⟩ := hy
  refine HSS.mono ?_
  rintro e w2 ⟨rfl, nd2, hw2⟩
  have HB2 : Hid (Below w.heap.size w w2) := by rw [hw2]; exact ⟨HB.out.os, HB.out.tape, HB.out.output, HB.out.size, HB.out.block⟩
  have HX2 : Hid (w2.heap[w.heap.size]? = some (rcO r (.slice sa ns sc) (.slice da nd dc))) := by rw [hw2]; exact HX.out
  have HY2 : Hid (w2.heap[w.heap.size + 1]? = some (rcO r (.slice sb ns tc) (.slice db nd ec))) := by rw [hw2]; exact HY.out
  clear hw2 c0 c1 c2 c3 c4 c5 c6 c7 c8 c9 c10 d0 d1 d2 d3 d4 d5 d6 d7 d8 d9 d10
  obtain ⟨c0, c1, c2, c3, c4, c5, c6, c7, c8, c9, c10⟩ := rc_cells HX2.out
  obtain ⟨d0, d1, d2, d3, d4, d5, d6, d7, d8, d9, d10⟩ := rc_cells HY2.out
  have k1 := conv7 w2 da nd dc r.data HRA.out.dat (HRA.out.lie.below HB2.out)
  have k2 := conv7 w2 db nd ec r.data HRB.out.dat (HRB.out.lie.below HB2.out)
  generalize strOfNums r.data = S at *
  try simp only [List.append_eq, List.cons_append, List.nil_append]
  go_wp2
  go_ret
  exact ⟨rfl, HB2.out⟩

set_option maxRecDepth 100000 in
set_option maxHeartbeats 4000000 in
/-- Two lists that say the same: same says so. -/
theorem same7_eq (l : List Rc) (a b : Option Addr) (n ca cb : Nat) (w : World) (hn : l.length = n) (hm : n ≤ 140737488355328) (ha : RLin w a l) (hb : RLin w b l) (hsp : ∀ r ∈ l, r.spans.length ≤ 4611686018427387903) :
    Calls Tryz.prog 24 #[.slice a n ca, .slice b n cb] w fun e w' => e = .returned (.bool true) ∧ Below w.heap.size w w' := by
  have HA : Hid (RLin w a l) := ha
  have HB : Hid (RLin w b l) := hb
  have HN : Hid (l.length = n) := hn
  have HSP : Hid (∀ r ∈ l, r.spans.length ≤ 4611686018427387903) := hsp
  clear ha hb hn hsp
  go_enter Tryz.func24, Tryz.ntmps24
  go_wp2_with fail
  go_loopw [5] (fun i wr => ∃ k : Nat, k ≤ n ∧ i = .int .i64 k ∧ Below w.heap.size w wr) (fun i _ => n - (intOf i).toNat)
  case atStart => exact ⟨0, Nat.zero_le _, rfl, Below.refl _ _⟩
  case round =>
    obtain ⟨k, hk, rfl, hbw⟩ := hrel
    have HBW : Hid (Below w.heap.size w wr) := hbw
    by_cases hlt : k < n
    · have hkl : k < l.length := by rw [HN.out]; exact hlt
      obtain ⟨r, hr⟩ : ∃ r, l[k]? = some r := ⟨l[k], List.getElem?_eq_getElem hkl⟩
      obtain ⟨g, off, sa, da, sc, dc, rfl, hc, hri⟩ := (HA.out.below hbw).at hr
      obtain ⟨g', off', sb, db, tc, ec, rfl, hc', hri'⟩ := (HB.out.below hbw).at hr
      have c0 := hc 0 _ rfl
      have c1 := hc 1 _ rfl
      have c2 := hc 2 _ rfl
      have c3 := hc 3 _ rfl
      have c4 := hc 4 _ rfl
      have c5 := hc 5 _ rfl
      have c6 := hc 6 _ rfl
      have c7 := hc 7 _ rfl
      have c8 := hc 8 _ rfl
      have c9 := hc 9 _ rfl
      have c10 := hc 10 _ rfl
      have d0 := hc' 0 _ rfl
      have d1 := hc' 1 _ rfl
      have d2 := hc' 2 _ rfl
      have d3 := hc' 3 _ rfl
      have d4 := hc' 4 _ rfl
      have d5 := hc' 5 _ rfl
      have d6 := hc' 6 _ rfl
      have d7 := hc' 7 _ rfl
      have d8 := hc' 8 _ rfl
      have d9 := hc' 9 _ rfl
      have d10 := hc' 10 _ rfl
      simp only [Nat.add_zero] at c0 d0
      have hsr := HSP.out r (List.mem_of_getElem? hr)
      have HS : Hid (∀ W, Below wr.heap.size wr W → Calls Tryz.prog 55 #[.agg (rcC r (.slice sa r.spans.length sc) (.slice da r.data.length dc)), .agg (rcC r (.slice sb r.spans.length tc) (.slice db r.data.length ec))] W fun e w' => e = .returned (.bool true) ∧ Below W.heap.size W w') := fun W hW => sameRec7_eq r sa da sb db _ _ sc dc tc ec W (hri.below hW) (hri'.below hW) hsr
      have HBN : Hid (∀ W W', Below wr.heap.size wr W → Below W.heap.size W W' → Below w.heap.size w W') := fun W W' h1 h2 => (HBW.out.trans (h1.mono HBW.out.size)).trans (h2.mono (by have := HBW.out.size; have := h1.size; omega))
      have hlt' : (k : Int) < (n : Int) := by omega
      clear hc hc' hri hri' hbw hr hsr
      generalize r.spans.length = ns at *
      generalize r.data.length = nd at *
      go_upto_region 6 with fail
      go_region_with (go_at_call 55; refine (HS.out _ (by first | exact Below.refl _ _ | exact ⟨rfl, rfl, rfl, Nat.le_refl _, fun _ _ => rfl⟩)).mono ?_; rintro e w2 ⟨rfl, hb2⟩; have HB2 : Hid (Below w.heap.size w w2) := HBN.out _ _ (by first | exact Below.refl _ _ | exact ⟨rfl, rfl, rfl, Nat.le_refl _, fun _ _ => rfl⟩) hb2; clear hb2)
      all_goals
        clear c0 c1 c2 c3 c4 c5 c6 c7 c8 c9 c10 d0 d1 d2 d3 d4 d5 d6 d7 d8 d9 d10 HS HBN
        go_wp2
        go_roundw
        case rel => exact ⟨k + 1, by omega, by go_num, HB2.out⟩
        case measure => simp [intOf]; omega
    · have hlt' : ¬ (k : Int) < (n : Int) := by omega
      clear hbw
      go_wp2
      go_ret
      exact ⟨rfl, HBW.out⟩
end Go.Proofs.YtllhbhogfffedaaGreatDoor
