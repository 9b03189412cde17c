import Derived.Test.YtillgoegiplmkaaGreatDoorTbEo
import Derived.Test.YtillgoegiplmkaaGreatDoorTbDg
import Derived.Test.YtillgoegiplmkaaGreatDoorTbMq
import Derived.Test.YtillgoegiplmkaaGreatDoorTbG
import Derived.Deep.RegionHeld3
namespace Go.Proofs.YtillgoegiplmkaaGreatDoor.B
open C
open Go.RowKit Go.Maps
set_option linter.unusedVariables false
set_option linter.unusedSimpArgs false

/-! ## What a snapshot's records are like -/
structure Nc (r : Rc) : Prop where
  sw : sW (sR r)
  sp : r.spans.length ≤ 1048576
  dl : r.data.length ≤ 1048576
  by' : Bytey r.data
theorem sw_in {a b : Int} (h1 : 0 ≤ a ∧ a ≤ mxN) (h2 : 0 ≤ b ∧ b ≤ mxN) : sW (a, b) := by
  have m : mxN = 4611686018427387903 := rfl
  exact ⟨i_w ⟨by show -9223372036854775808 ≤ a; omega, by show a ≤ 9223372036854775807; omega⟩, i_w ⟨by show -9223372036854775808 ≤ b; omega, by show b ≤ 9223372036854775807; omega⟩⟩
theorem Og.Ok.sw {d n : Int} {x : Og} (h : x.Ok d n) (hd : 0 ≤ d ∧ d ≤ mxN) : sW x.s := sw_in (by rw [h.org]; exact hd) (by have := h.num; omega)
theorem Ic.Ok.sw {d : Int} {x : Ic} (h : x.Ok d) : sW x.s := sw_in (by have := h.org; omega) (by have := h.num; omega)
theorem nc_0 {r : Rc} (h : sW (sR r)) (h1 : r.spans = []) (h2 : r.data = []) : Nc r := ⟨h, by rw [h1]; simp, by rw [h2]; simp, by rw [h2]; exact fun x hx => by cases hx⟩
theorem snap_nc {T : T8} (hok : T.Ok) : ∀ r ∈ T.snap, Nc r := fun r hr => by
  have m : mxN = 4611686018427387903 := rfl
  have z0 : sW (0, 0) := sw_in (by omega) (by omega)
  unfold T8.snap at hr
  split at hr
  · cases hr
  · rcases List.mem_cons.mp hr with e | hr
    · subst e
      exact nc_0 (r := { rc0 1 (T.id, 0) with size := T.boots }) (show sW (T.id, 0) from sw_in hok.id (by omega)) rfl rfl
    · rcases List.mem_append.mp hr with hr | hr
      · obtain ⟨x, hx, hr⟩ := List.mem_flatMap.mp hr
        have hxo := hok.ex x hx
        have hsw := hxo.sw hok.id
        rw [exR_eq] at hr
        rcases List.mem_cons.mp hr with e | hr
        · subst e
          refine ⟨hsw, by simp [opR, rc0], ?_, hxo.byt⟩
          have a := hxo.data
          have b := hxo.len
          show x.data.length ≤ 1048576
          omega
        · split at hr
          · simp only [List.mem_singleton] at hr
            subst hr
            exact nc_0 hsw rfl rfl
          · cases hr
      · rcases List.mem_append.mp hr with hr | hr
        · split at hr
          · simp only [List.mem_singleton] at hr
            subst hr
            exact nc_0 z0 rfl rfl
          · cases hr
        · rcases List.mem_append.mp hr with hr | hr
          · obtain ⟨i, hi, hr⟩ := List.mem_flatMap.mp hr
            have hio := hok.im i hi
            have hsw := hio.sw
            unfold imR at hr
            split at hr
            · simp only [List.mem_singleton] at hr
              subst hr
              exact nc_0 hsw rfl rfl
            · split at hr
              · simp only [List.mem_singleton] at hr
                subst hr
                exact nc_0 hsw rfl rfl
              · rcases List.mem_append.mp hr with hr | hr
                · obtain ⟨s, hs, rfl⟩ := List.mem_map.mp hr
                  have hdl : i.data.length ≤ 65536 := by
                    have a := hio.dat
                    have b := hio.most
                    split at a <;> omega
                  refine ⟨hsw, by simp [rdR8, rc0], ?_, fun y hy => ?_⟩
                  · show ((i.data.drop s.1.toNat).take (s.2 - s.1).toNat).length ≤ 1048576
                    simp only [List.length_take, List.length_drop]
                    omega
                  · exact hio.byt y (List.mem_of_mem_drop (List.mem_of_mem_take hy))
                · rcases List.mem_append.mp hr with hr | hr
                  · split at hr
                    · simp only [List.mem_singleton] at hr
                      subst hr
                      exact nc_0 hsw rfl rfl
                    · cases hr
                  · split at hr
                    · simp only [List.mem_singleton] at hr
                      subst hr
                      exact nc_0 hsw rfl rfl
                    · cases hr
          · obtain ⟨t, ht, rfl⟩ := List.mem_map.mp hr
            have h5 := (hok.tb t ht).2.2.2.2.1
            exact ⟨z0, by show t.2.length ≤ 1048576; omega, by simp [tbR, rc0], fun y hy => by cases hy⟩
theorem own_room8 {w : World} {b e s m n c : Nat} {a : Option Addr} {xs : List Value} (h : w.ownsRow b e s (.slice a n c) m xs) : n ≤ c ∧ c ≤ 9223372036854775807 ∧ (a = none → n = 0 ∧ c = 0) := by
  obtain ⟨_, ⟨q, q'⟩ | ⟨g', cap', cur, q, _, _, q2, q3, _⟩⟩ := h
  · simp only [Value.slice.injEq] at q
    exact ⟨by omega, by omega, fun _ => ⟨q.2.1, q.2.2⟩⟩
  · simp only [Value.slice.injEq] at q
    unfold maxLen at q3
    exact ⟨by omega, by omega, fun e => by rw [e] at q; cases q.1⟩
/-- A row of records of one's own is one that lies there. -/
theorem rr_rlx {lo : Nat} {w : World} {R : List Rv} {a : Option Addr} {n c : Nat} (h : RrR w lo (.slice a n c) R) (he : Els lo R w) (hb : ∀ x ∈ R, x.1.data.length ≤ 1048576 ∧ x.1.spans.length ≤ 1048576) : RLx w a (R.map Prod.fst) := by
  by_cases h0 : R = []
  · subst h0
    exact .inl rfl
  · right
    have hn := rr_len h
    have hpos : 0 < R.length := List.length_pos_iff.mpr h0
    have h' := h
    unfold RrR at h'
    rw [← hn] at h'
    obtain ⟨g, cp, eg, _, _⟩ := World.ownsRow.form h' (by omega)
    cases eg
    refine ⟨g, 0, rfl, fun i r hr => ?_⟩
    rw [List.getElem?_map] at hr
    obtain ⟨x, hx, rfl⟩ := Option.map_eq_some_iff.mp hr
    obtain ⟨r, sv, dv⟩ := x
    have hm := List.mem_of_getElem? hx
    obtain ⟨sa, ns, sc, e1⟩ := own_sl8 (he _ hm).1
    obtain ⟨da, nd, dc, e2⟩ := own_sl8 (he _ hm).2
    simp only at e1 e2
    subst e1
    subst e2
    have s1 := so_spa (he _ hm).1
    have y1 := byo_lies (he _ hm).2
    have r1 := own_room8 (he _ hm).2
    have hb1 := hb _ hm
    simp only at s1 y1 hb1
    obtain ⟨s1, s2⟩ := s1
    obtain ⟨y1, y2⟩ := y1
    subst s2
    subst y2
    refine ⟨sa, da, sc, dc, fun j u hj => ?_, ⟨rfl, rfl, by show r.data.length ≤ 140737488355328; omega, SOwn.ls (he _ hm).1 (by show r.spans.length ≤ 9223372036854775807; omega), y1, r1.2.2⟩, fun _ => ⟨r1.1, r1.2.1⟩⟩
    have hj11 : j < 11 := by
      have := (List.getElem?_eq_some_iff.mp (show (rcc (r, .slice sa r.spans.length sc, .slice da r.data.length dc))[j]? = some u by simpa [rcc, rcC] using hj)).1
      simpa [rcc] using this
    rw [Nat.zero_add]
    exact own_cell11 h' hx hj11 (by simpa [rcc, rcC] using hj)
theorem RJ.rlx {w w' : World} {T : T8} (hok : T.Ok) {R : List Rv} {a : Option Addr} {n c : Nat} (h : RJ w R (.slice a n c) w') (e : R.map Prod.fst = T.snap) : RLx w' a T.snap := by
  rw [← e]
  exact rr_rlx h.row h.el (fun x hx => by
    have := snap_nc hok x.1 (by rw [← e]; exact List.mem_map.mpr ⟨x, hx, rfl⟩)
    exact ⟨this.dl, this.sp⟩)
end Go.Proofs.YtillgoegiplmkaaGreatDoor.B

namespace Go.Proofs.YtillgoegiplmkaaGreatDoor.B
open C
open Go.RowKit Go.Maps
set_option linter.unusedVariables false
set_option linter.unusedSimpArgs false

/-! ## The law's small calls: boot, loaded -/
def bR : Rc := { rc0 1 (1, 0) with size := 1 }
set_option maxRecDepth 8000 in
set_option maxHeartbeats 4000000 in
theorem boot8_any (w : World) : Calls Tryz.prog 30 #[] w fun e w' => e = .returned (.agg (rcC bR (.slice none 0 0) (.slice none 0 0))) ∧ Below w.heap.size w w' := by
  have HB : Hid (Below w.heap.size w (w.alloc (.cells #[.int .i64 1, .int .i64 1, .int .i64 0, .int .i64 0, .int .i64 0, .int .i64 0, .int .i64 0, .int .i64 1, .int .i64 0, .slice none 0 0, .slice none 0 0] 35))) := (Below.refl _ _).alloc (Nat.le_refl _) _
  have HR : Hid ((w.alloc (.cells #[.int .i64 1, .int .i64 1, .int .i64 0, .int .i64 0, .int .i64 0, .int .i64 0, .int .i64 0, .int .i64 1, .int .i64 0, .slice none 0 0, .slice none 0 0] 35)).heap[w.heap.size]? = some (.cells #[.int .i64 1, .int .i64 1, .int .i64 0, .int .i64 0, .int .i64 0, .int .i64 0, .int .i64 0, .int .i64 1, .int .i64 0, .slice none 0 0, .slice none 0 0] 35 (0, 0))) := heap_alloc_new' w _
  go_enter Tryz.func30, Tryz.ntmps30
  go_wp2
  refine bodyPost_ret (results_cell_row (fn := Tryz.f30) (p := 0) (ty := 35) rfl _ _ w.heap.size _ _ _ _ rfl HR.out Tryz.underlying35 rfl (by kernel_rfl)) rfl ?_
  exact ⟨rfl, HB.out⟩
/-- Load of a row all of which can follow. -/
theorem load_ok {w : World} (hT : Tab6 w) (a : Option Addr) (n c : Nat) (l : List Rc) (hl : RLx w a l) (hn : l.length = n) (hby : ∀ r ∈ l, Bytey r.data) (hbig : n ≤ 140737488355328) {T : T8} (h : ld t0 0 l = (some T, 0, 0)) :
    Calls Tryz.prog 18 #[.slice a n c] w fun e w' => ∃ z, e = .returned (.tuple #[tP z, .int .i64 0, .int .i64 0]) ∧ Tn w z T w' := by
  refine (load_any hT a n c l hl hn hby hbig).mono ?_
  rintro e w' ⟨o, n', er, pv, q1, rfl, _, q2⟩
  rw [h] at q1
  simp only [Prod.mk.injEq] at q1
  obtain ⟨rfl, rfl, rfl⟩ := q1
  obtain ⟨z, rfl, q3⟩ := q2
  exact ⟨z, rfl, q3⟩
/-- What loaded leaves. -/
def LddP (n : Nat) (w : World) (e : Ending) (w' : World) : Prop := ∃ z T, e = .returned (tP z) ∧ Tn w z T w' ∧ T.Few n
def LddI (w : World) (x k : Nat) (W : World) : Prop := ∃ z T, z.x = x ∧ Tn w z T W ∧ T.Few k
theorem tn_new {w : World} {W : World} (h : Tw W (zNew w.heap.size) t0) (hb : Below w.heap.size w W) : Tn w (zNew w.heap.size) t0 W := ⟨h, ok_t0, hb, fun g hg => by
    unfold Tz.F zNew at hg
    simp only at hg
    split at hg
    · omega
    · split at hg
      · omega
      · split at hg
        · omega
        · split at hg
          · omega
          · exact absurd rfl hg⟩
set_option maxRecDepth 8000 in
set_option maxHeartbeats 4000000 in
theorem loaded_any {w : World} (hT : Tab6 w) (a : Option Addr) (n c : Nat) (l : List Rc) (hl : RLx w a l) (hn : l.length = n) (hby : ∀ r ∈ l, Bytey r.data) (hbig : n ≤ 140737488355328) : Calls Tryz.prog 25 #[.slice a n c] w (LddP n w) := by
  have hkl := kinds_lt hT
  have HH : Hid (Tab6 w ∧ RLx w a l ∧ l.length = n ∧ (∀ r ∈ l, Bytey r.data)) := ⟨hT, hl, hn, hby⟩
  have HN : Hid (Calls Tryz.prog 9 #[] w fun e w' => e = .returned (.pointer (some ⟨w.heap.size + 3, 0, none⟩)) ∧ LddI w (w.heap.size + 3) 0 w') := (new8_any w).mono fun e w' q => ⟨q.1, zNew w.heap.size, t0, rfl, tn_new q.2.1 q.2.2, few_t0⟩
  obtain ⟨X, hX⟩ : ∃ X, w.heap.size + 3 = X := ⟨_, rfl⟩
  rw [hX] at HN
  clear hT hl hn hby hX
  go_enter Tryz.func25, Tryz.ntmps25
  go_upto_region 2 with (go_at_call 9; refine HN.out.mono ?_; rintro e w1 ⟨rfl, hI0⟩)
  have HI0 : Hid (LddI w X 0 w1) := hI0
  clear hI0 HN
  go_wp2_with fail
  go_loopw [4] (fun i wr => ∃ k : Nat, i = .int .i64 k ∧ Hid (k ≤ n ∧ LddI w X k wr)) (fun i _ => n - (intOf i).toNat)
  case atStart => exact ⟨0, rfl, Nat.zero_le _, HI0.out⟩
  case round =>
    obtain ⟨k, rfl, hh⟩ := hrel
    have HK : Hid (k ≤ n ∧ LddI w X k wr) := hh.out
    clear hh HI0
    by_cases hlt : k < n
    · have hlt' : (k : Int) < (n : Int) := by omega
      have hkl' : k < l.length := by rw [HH.out.2.2.1]; exact hlt
      obtain ⟨r, hr⟩ : ∃ r, l[k]? = some r := ⟨l[k], List.getElem?_eq_getElem hkl'⟩
      obtain ⟨z, T, hzx, hTn, hfw⟩ := HK.out.2
      obtain ⟨g, off, sa, da, sc, dc, rfl, hc00, hri0, hro⟩ := (HH.out.2.1).at hr
      have hc : ∀ j u, (rcC r (.slice sa r.spans.length sc) (.slice da r.data.length dc))[j]? = some u → wr.cell? ⟨g, off + k * 11 + j, none⟩ = some u := fun j u hj => C.cell_below (hc00 j u hj) hTn.low
      have hri := hri0.below hTn.low
      have c0 := hc 0 _ rfl
      have c1 := hc 1 _ rfl
      have c2 := hc 2 _ rfl
      have c3 := hc 3 _ rfl
      have c4 := hc 4 _ rfl
      have c5 := hc 5 _ rfl
      have c6 := hc 6 _ rfl
      have c7 := hc 7 _ rfl
      have c8 := hc 8 _ rfl
      have c9 := hc 9 _ rfl
      have c10 := hc 10 _ rfl
      simp only [Nat.add_zero] at c0
      have hkb : 0 < wr.heap.size := Nat.lt_of_lt_of_le hkl hTn.low.size
      have hmem : r ∈ l := List.mem_of_getElem? hr
      have HAp : Hid (Calls Tryz.prog 19 #[.pointer (some ⟨X, 0, none⟩), .agg (rcC r (.slice sa r.spans.length sc) (.slice da r.data.length dc))] wr fun e w' => e = .returned (.int .i64 (T.can r)) ∧ LddI w X (k + 1) w') := by
        have ha := apply_at hTn.tw hTn.ok (HH.out.1.below hTn.low hkl) r sa da sc dc hri hro (fun h1 x hx e => by have e1 := hTn.new _ e; have e2 := lies_lt (hri0.lie) h1 x hx; omega)
        rw [show tP z = .pointer (some ⟨X, 0, none⟩) from by rw [← hzx]] at ha
        refine ha.mono fun e w' q => ?_
        obtain ⟨q1, z', q2, q3⟩ := q
        exact ⟨q1, z', T.app r, q3.x.trans hzx, hTn.up q2 q3 (app_ok hTn.ok (HH.out.2.2.2 r hmem)), few_app hfw r⟩
      obtain ⟨E, hE⟩ : ∃ E, T.can r = E := ⟨_, rfl⟩
      rw [hE] at HAp
      clear hE hc hc00 hri hri0 hro hTn hr hkb hmem hzx hfw
      generalize r.spans.length = ns at *
      generalize r.data.length = nd at *
      go_wp2_with (go_at_call 19; refine HAp.out.mono ?_; rintro e w2 ⟨rfl, hq⟩; have HQ : Hid (LddI w X (k + 1) w2) := hq; clear hq)
      go_roundw
      case rel => exact ⟨k + 1, by go_num, by omega, HQ.out⟩
      case measure => simp [intOf]; omega
    · have hkn : k = n := by have := HK.out.1; omega
      obtain ⟨z, T, hzx, hTn, hfw⟩ := HK.out.2
      have HQ : Hid (LddP n w (.returned (.pointer (some ⟨X, 0, none⟩))) wr) := ⟨z, T, by rw [← hzx], hTn, by rw [← hkn]; exact hfw⟩
      have hlt' : ¬ (k : Int) < (n : Int) := by omega
      clear hzx hTn hfw hkn
      go_wp2
      go_ret
      exact HQ.out
end Go.Proofs.YtillgoegiplmkaaGreatDoor.B

namespace Go.Proofs.YtillgoegiplmkaaGreatDoor.B
open C
open Go.RowKit Go.Maps
set_option linter.unusedVariables false
set_option linter.unusedSimpArgs false

/-! ## Awake of layer 8 -/
def gR : Rc := { rc0 8 (2, 7) with how := 4 }
def TA : T8 := ⟨1, 1, 1, [], [⟨2, 7, 0, 0, 0, [], [], false, true, false, false, 4⟩], []⟩
def TA1 : T8 := ⟨1, 1, 1, [], [], []⟩
theorem can_b : t0.can bR = 0 := by decide
theorem can_g : TA1.can gR = 0 := by decide
theorem ta_ld : ld t0 0 [bR, gR] = (some TA, 0, 0) := by
  have e1 : t0.then' bR = TA1 := rfl
  have e2 : TA1.then' gR = TA := rfl
  rw [ld, if_pos can_b, e1, ld, if_pos can_g, e2, ld]
theorem ta_can : TA.can bR = 80 := by decide
theorem ta_c7 : TA.closed (2, 7) = true := by decide
theorem ta_c8 : TA.closed (2, 8) = false := by decide
theorem ta_few : TA.Few 1 := ⟨by decide, by decide, by decide⟩
theorem ta_sn : TA.snap.length = 2 := by decide
def RA : List Rv := [(bR, nilV, nilV), (gR, nilV, nilV)]
theorem rin_nil (w : World) (r : Rc) (h1 : r.spans = []) (h2 : r.data = []) : RIn w r none none r.spans.length r.data.length 0 0 := by
  refine ⟨rfl, rfl, by rw [h2]; simp, ?_, by rw [h2]; exact .inl rfl, fun _ => ⟨by rw [h2]; rfl, rfl⟩⟩
  rw [h1]
  exact (SOwn.nil w 0).ls (by simp)
/-- What State tells of it. -/
def StA (W : World) (e : Ending) (w' : World) : Prop := ∃ ao ai «at» no co ci ct, e = .returned (.agg #[.int .i64 1, .int .i64 1, .int .i64 1, .slice ao no co, .slice ai 1 ci, .slice «at» 0 ct]) ∧ Below W.heap.size W w'
theorem state_a {W : World} {z : Tz} (h : Tw W z TA) (hok : TA.Ok) : Calls Tryz.prog 26 #[tP z] W (StA W) := by
  refine (state_any h hok (by decide) (by decide) (by decide)).mono ?_
  rintro e w' ⟨vo, vi, vt, P, Q, R, rfl, e1, e2, e3, st, hb⟩
  obtain ⟨ao, no, co, rfl⟩ := own_sl8 st.ro
  obtain ⟨ai, ni, ci, rfl⟩ := own_sl8 st.ri
  obtain ⟨«at», nt, ct, rfl⟩ := own_sl8 st.rt
  have a2 := own_len8 st.ri
  have a3 := own_len8 st.rt
  have b2 := congrArg List.length e2
  have b3 := congrArg List.length e3
  rw [List.length_map] at b2 b3
  have c2 : TA.im.length = 1 := rfl
  have c3 : TA.tb.length = 0 := rfl
  obtain rfl : ni = 1 := by omega
  obtain rfl : nt = 0 := by omega
  exact ⟨_, _, _, _, _, _, _, rfl, hb⟩
set_option maxRecDepth 8000 in
set_option maxHeartbeats 8000000 in
theorem awake8_any {w : World} (hT : Tab6 w) : Calls Tryz.prog 8 #[] w fun e w' => e = .returned (.bool true) ∧ Below w.heap.size w w' := by
  have hkl := kinds_lt hT
  have HT : Hid (Tab6 w) := hT
  have HBt : Hid (∀ U, Calls Tryz.prog 30 #[] U fun e w' => e = .returned (.agg #[.int .i64 1, .int .i64 1, .int .i64 0, .int .i64 0, .int .i64 0, .int .i64 0, .int .i64 0, .int .i64 1, .int .i64 0, .slice none 0 0, .slice none 0 0]) ∧ Below U.heap.size U w') := fun U => boot8_any U
  have HLd : Hid (∀ U, Below w.heap.size w U → Calls Tryz.prog 18 #[.slice (some ⟨U.heap.size, 0, none⟩) 2 2] (U.alloc (.cells #[.int .i64 1, .int .i64 1, .int .i64 0, .int .i64 0, .int .i64 0, .int .i64 0, .int .i64 0, .int .i64 1, .int .i64 0, .slice none 0 0, .slice none 0 0, .int .i64 8, .int .i64 2, .int .i64 7, .int .i64 0, .int .i64 0, .int .i64 0, .int .i64 0, .int .i64 0, .int .i64 4, .slice none 0 0, .slice none 0 0] 35)) fun e w' => ∃ z, e = .returned (.tuple #[tP z, .int .i64 0, .int .i64 0]) ∧ Tn (U.alloc (.cells #[.int .i64 1, .int .i64 1, .int .i64 0, .int .i64 0, .int .i64 0, .int .i64 0, .int .i64 0, .int .i64 1, .int .i64 0, .slice none 0 0, .slice none 0 0, .int .i64 8, .int .i64 2, .int .i64 7, .int .i64 0, .int .i64 0, .int .i64 0, .int .i64 0, .int .i64 0, .int .i64 4, .slice none 0 0, .slice none 0 0] 35)) z TA w') := fun U hU => by
    have hr : RrR (U.alloc (.cells #[.int .i64 1, .int .i64 1, .int .i64 0, .int .i64 0, .int .i64 0, .int .i64 0, .int .i64 0, .int .i64 1, .int .i64 0, .slice none 0 0, .slice none 0 0, .int .i64 8, .int .i64 2, .int .i64 7, .int .i64 0, .int .i64 0, .int .i64 0, .int .i64 0, .int .i64 0, .int .i64 4, .slice none 0 0, .slice none 0 0] 35)) 0 (.slice (some ⟨U.heap.size, 0, none⟩) 2 2) RA := rr_new U RA 2 rfl (by omega) (by omega) (Nat.zero_le _)
    have hb : Below w.heap.size w (U.alloc (.cells #[.int .i64 1, .int .i64 1, .int .i64 0, .int .i64 0, .int .i64 0, .int .i64 0, .int .i64 0, .int .i64 1, .int .i64 0, .slice none 0 0, .slice none 0 0, .int .i64 8, .int .i64 2, .int .i64 7, .int .i64 0, .int .i64 0, .int .i64 0, .int .i64 0, .int .i64 0, .int .i64 4, .slice none 0 0, .slice none 0 0] 35)) := hU.alloc hU.size _
    refine load_ok (hT.below hb hkl) _ 2 2 [bR, gR] (rr_rlx (R := RA) hr (fun x hx => ?_) (fun x hx => ?_)) rfl (fun r hr => ?_) (by omega) ta_ld
    · simp only [RA, List.mem_cons, List.not_mem_nil, or_false] at hx
      rcases hx with rfl | rfl <;> exact ⟨SOwn.nil _ _, World.ownsRow_nil _ _ _ _⟩
    · simp only [RA, List.mem_cons, List.not_mem_nil, or_false] at hx
      rcases hx with rfl | rfl <;> exact ⟨by decide, by decide⟩
    · simp only [List.mem_cons, List.not_mem_nil, or_false] at hr
      rcases hr with rfl | rfl <;> exact fun y hy => by cases hy
  clear hT
  go_enter Tryz.func8, Tryz.ntmps8
  go_upto_region 2 with (go_at_call 9; refine (new8_any w).mono ?_; rintro e w1 ⟨rfl, _, hb1⟩; have HB1 : Hid (Below w.heap.size w w1) := hb1; clear hb1)
  go_upto_region 5 with fail
  obtain ⟨x, hx⟩ : ∃ x, w1.heap.size = x := ⟨_, rfl⟩
  obtain ⟨V1, hV1⟩ : ∃ V1, w1.alloc (.cells #[.int .i64 8, .int .i64 2, .int .i64 7, .int .i64 0, .int .i64 0, .int .i64 0, .int .i64 0, .int .i64 0, .int .i64 4, .slice none 0 0, .slice none 0 0] 35) = V1 := ⟨_, rfl⟩
  rw [hV1, hx]
  have hq1 : V1.heap[x]? = some (.cells #[.int .i64 8, .int .i64 2, .int .i64 7, .int .i64 0, .int .i64 0, .int .i64 0, .int .i64 0, .int .i64 0, .int .i64 4, .slice none 0 0, .slice none 0 0] 35) := by rw [← hV1, ← hx]; exact heap_alloc_new' w1 _
  have hbV : Below w.heap.size w V1 := by rw [← hV1]; exact HB1.out.alloc HB1.out.size _
  have HV : Hid (Below w.heap.size w V1 ∧ x < V1.heap.size) := ⟨hbV, (Array.getElem?_eq_some_iff.1 hq1).1⟩
  have HC : Hid (∀ V : World, Below V1.heap.size V1 V → V.cell? ⟨x, 0, none⟩ = some (.int .i64 8) ∧ V.cell? ⟨x, 1, none⟩ = some (.int .i64 2) ∧ V.cell? ⟨x, 2, none⟩ = some (.int .i64 7) ∧ V.cell? ⟨x, 3, none⟩ = some (.int .i64 0) ∧ V.cell? ⟨x, 4, none⟩ = some (.int .i64 0) ∧ V.cell? ⟨x, 5, none⟩ = some (.int .i64 0) ∧ V.cell? ⟨x, 6, none⟩ = some (.int .i64 0) ∧ V.cell? ⟨x, 7, none⟩ = some (.int .i64 0) ∧ V.cell? ⟨x, 8, none⟩ = some (.int .i64 4) ∧ V.cell? ⟨x, 9, none⟩ = some (.slice none 0 0) ∧ V.cell? ⟨x, 10, none⟩ = some (.slice none 0 0)) := fun V q => by
    have q2 := (q.block x HV.out.2).trans hq1
    refine ⟨?_, ?_, ?_, ?_, ?_, ?_, ?_, ?_, ?_, ?_, ?_⟩ <;> exact (cell_of_row _ _ _ _ _ _ q2).trans rfl
  have HC0 := HC.out V1 (Below.refl _ _)
  clear hV1 hq1 hbV hx
  go_wp2_with fail
  go_cut [3, 4, 5] from 16 to 23 (fun q3 q4 q5 wx => q4 = .int .i64 0 ∧ q5 = .int .i64 0 ∧ ∃ y, q3 = .pointer (some ⟨y, 0, none⟩) ∧ Hid (∃ z, z.x = y ∧ Tn w z TA wx))
  case first =>
    go_region_held3 (fun V => V.cell? ⟨x, 0, none⟩ = some (.int .i64 8) ∧ V.cell? ⟨x, 1, none⟩ = some (.int .i64 2) ∧ V.cell? ⟨x, 2, none⟩ = some (.int .i64 7) ∧ V.cell? ⟨x, 3, none⟩ = some (.int .i64 0) ∧ V.cell? ⟨x, 4, none⟩ = some (.int .i64 0) ∧ V.cell? ⟨x, 5, none⟩ = some (.int .i64 0) ∧ V.cell? ⟨x, 6, none⟩ = some (.int .i64 0) ∧ V.cell? ⟨x, 7, none⟩ = some (.int .i64 0) ∧ V.cell? ⟨x, 8, none⟩ = some (.int .i64 4) ∧ V.cell? ⟨x, 9, none⟩ = some (.slice none 0 0) ∧ V.cell? ⟨x, 10, none⟩ = some (.slice none 0 0))
      (first | exact HC0 | exact HC3.out | exact HC4.out | exact HC5.out)
      (first
        | (go_at_call 18
           go_loud (
             refine (HLd.out w3 HB3.out).mono ?_
             rintro e w5 ⟨z, rfl, q5⟩
             have hbl : Below w3.heap.size w3 (w3.alloc (.cells #[.int .i64 1, .int .i64 1, .int .i64 0, .int .i64 0, .int .i64 0, .int .i64 0, .int .i64 0, .int .i64 1, .int .i64 0, .slice none 0 0, .slice none 0 0, .int .i64 8, .int .i64 2, .int .i64 7, .int .i64 0, .int .i64 0, .int .i64 0, .int .i64 0, .int .i64 0, .int .i64 4, .slice none 0 0, .slice none 0 0] 35)) := (Below.refl _ _).alloc (Nat.le_refl _) _
             have hlow : Below w.heap.size w w5 := HB3.out.trans ((hbl.trans (q5.low.mono hbl.size)).mono HB3.out.size)
             have HZ : Hid (Tn w z TA w5) := ⟨q5.tw, q5.ok, hlow, fun g hg => by have a := q5.new g hg; have b := HB3.out.size; have c := hbl.size; omega⟩
             clear hbl hlow)
           have HC5 : Hid (w5.cell? ⟨x, 0, none⟩ = some (.int .i64 8) ∧ w5.cell? ⟨x, 1, none⟩ = some (.int .i64 2) ∧ w5.cell? ⟨x, 2, none⟩ = some (.int .i64 7) ∧ w5.cell? ⟨x, 3, none⟩ = some (.int .i64 0) ∧ w5.cell? ⟨x, 4, none⟩ = some (.int .i64 0) ∧ w5.cell? ⟨x, 5, none⟩ = some (.int .i64 0) ∧ w5.cell? ⟨x, 6, none⟩ = some (.int .i64 0) ∧ w5.cell? ⟨x, 7, none⟩ = some (.int .i64 0) ∧ w5.cell? ⟨x, 8, none⟩ = some (.int .i64 4) ∧ w5.cell? ⟨x, 9, none⟩ = some (.slice none 0 0) ∧ w5.cell? ⟨x, 10, none⟩ = some (.slice none 0 0)) := HC.out w5 (HBV3.out.trans (q5.low.mono HBV3.out.size))
           clear q5)
        | (go_at_call 30
           refine (HBt.out _).mono ?_
           rintro e w3 ⟨rfl, b3⟩
           have hb3 : Below V1.heap.size V1 w3 := ⟨b3.os, b3.tape, b3.output, b3.size, b3.block⟩
           have HB3 : Hid (Below w.heap.size w w3) := HV.out.1.trans (hb3.mono HV.out.1.size)
           have HC3 : Hid (w3.cell? ⟨x, 0, none⟩ = some (.int .i64 8) ∧ w3.cell? ⟨x, 1, none⟩ = some (.int .i64 2) ∧ w3.cell? ⟨x, 2, none⟩ = some (.int .i64 7) ∧ w3.cell? ⟨x, 3, none⟩ = some (.int .i64 0) ∧ w3.cell? ⟨x, 4, none⟩ = some (.int .i64 0) ∧ w3.cell? ⟨x, 5, none⟩ = some (.int .i64 0) ∧ w3.cell? ⟨x, 6, none⟩ = some (.int .i64 0) ∧ w3.cell? ⟨x, 7, none⟩ = some (.int .i64 0) ∧ w3.cell? ⟨x, 8, none⟩ = some (.int .i64 4) ∧ w3.cell? ⟨x, 9, none⟩ = some (.slice none 0 0) ∧ w3.cell? ⟨x, 10, none⟩ = some (.slice none 0 0)) := HC.out w3 hb3
           have HBV3 : Hid (Below V1.heap.size V1 (w3.alloc (.cells #[.int .i64 1, .int .i64 1, .int .i64 0, .int .i64 0, .int .i64 0, .int .i64 0, .int .i64 0, .int .i64 1, .int .i64 0, .slice none 0 0, .slice none 0 0, .int .i64 8, .int .i64 2, .int .i64 7, .int .i64 0, .int .i64 0, .int .i64 0, .int .i64 0, .int .i64 0, .int .i64 4, .slice none 0 0, .slice none 0 0] 35))) := hb3.alloc hb3.size _
           have HC4 : Hid ((w3.alloc (.cells #[.int .i64 1, .int .i64 1, .int .i64 0, .int .i64 0, .int .i64 0, .int .i64 0, .int .i64 0, .int .i64 1, .int .i64 0, .slice none 0 0, .slice none 0 0, .int .i64 8, .int .i64 2, .int .i64 7, .int .i64 0, .int .i64 0, .int .i64 0, .int .i64 0, .int .i64 0, .int .i64 4, .slice none 0 0, .slice none 0 0] 35)).cell? ⟨x, 0, none⟩ = some (.int .i64 8) ∧ (w3.alloc (.cells #[.int .i64 1, .int .i64 1, .int .i64 0, .int .i64 0, .int .i64 0, .int .i64 0, .int .i64 0, .int .i64 1, .int .i64 0, .slice none 0 0, .slice none 0 0, .int .i64 8, .int .i64 2, .int .i64 7, .int .i64 0, .int .i64 0, .int .i64 0, .int .i64 0, .int .i64 0, .int .i64 4, .slice none 0 0, .slice none 0 0] 35)).cell? ⟨x, 1, none⟩ = some (.int .i64 2) ∧ (w3.alloc (.cells #[.int .i64 1, .int .i64 1, .int .i64 0, .int .i64 0, .int .i64 0, .int .i64 0, .int .i64 0, .int .i64 1, .int .i64 0, .slice none 0 0, .slice none 0 0, .int .i64 8, .int .i64 2, .int .i64 7, .int .i64 0, .int .i64 0, .int .i64 0, .int .i64 0, .int .i64 0, .int .i64 4, .slice none 0 0, .slice none 0 0] 35)).cell? ⟨x, 2, none⟩ = some (.int .i64 7) ∧ (w3.alloc (.cells #[.int .i64 1, .int .i64 1, .int .i64 0, .int .i64 0, .int .i64 0, .int .i64 0, .int .i64 0, .int .i64 1, .int .i64 0, .slice none 0 0, .slice none 0 0, .int .i64 8, .int .i64 2, .int .i64 7, .int .i64 0, .int .i64 0, .int .i64 0, .int .i64 0, .int .i64 0, .int .i64 4, .slice none 0 0, .slice none 0 0] 35)).cell? ⟨x, 3, none⟩ = some (.int .i64 0) ∧ (w3.alloc (.cells #[.int .i64 1, .int .i64 1, .int .i64 0, .int .i64 0, .int .i64 0, .int .i64 0, .int .i64 0, .int .i64 1, .int .i64 0, .slice none 0 0, .slice none 0 0, .int .i64 8, .int .i64 2, .int .i64 7, .int .i64 0, .int .i64 0, .int .i64 0, .int .i64 0, .int .i64 0, .int .i64 4, .slice none 0 0, .slice none 0 0] 35)).cell? ⟨x, 4, none⟩ = some (.int .i64 0) ∧ (w3.alloc (.cells #[.int .i64 1, .int .i64 1, .int .i64 0, .int .i64 0, .int .i64 0, .int .i64 0, .int .i64 0, .int .i64 1, .int .i64 0, .slice none 0 0, .slice none 0 0, .int .i64 8, .int .i64 2, .int .i64 7, .int .i64 0, .int .i64 0, .int .i64 0, .int .i64 0, .int .i64 0, .int .i64 4, .slice none 0 0, .slice none 0 0] 35)).cell? ⟨x, 5, none⟩ = some (.int .i64 0) ∧ (w3.alloc (.cells #[.int .i64 1, .int .i64 1, .int .i64 0, .int .i64 0, .int .i64 0, .int .i64 0, .int .i64 0, .int .i64 1, .int .i64 0, .slice none 0 0, .slice none 0 0, .int .i64 8, .int .i64 2, .int .i64 7, .int .i64 0, .int .i64 0, .int .i64 0, .int .i64 0, .int .i64 0, .int .i64 4, .slice none 0 0, .slice none 0 0] 35)).cell? ⟨x, 6, none⟩ = some (.int .i64 0) ∧ (w3.alloc (.cells #[.int .i64 1, .int .i64 1, .int .i64 0, .int .i64 0, .int .i64 0, .int .i64 0, .int .i64 0, .int .i64 1, .int .i64 0, .slice none 0 0, .slice none 0 0, .int .i64 8, .int .i64 2, .int .i64 7, .int .i64 0, .int .i64 0, .int .i64 0, .int .i64 0, .int .i64 0, .int .i64 4, .slice none 0 0, .slice none 0 0] 35)).cell? ⟨x, 7, none⟩ = some (.int .i64 0) ∧ (w3.alloc (.cells #[.int .i64 1, .int .i64 1, .int .i64 0, .int .i64 0, .int .i64 0, .int .i64 0, .int .i64 0, .int .i64 1, .int .i64 0, .slice none 0 0, .slice none 0 0, .int .i64 8, .int .i64 2, .int .i64 7, .int .i64 0, .int .i64 0, .int .i64 0, .int .i64 0, .int .i64 0, .int .i64 4, .slice none 0 0, .slice none 0 0] 35)).cell? ⟨x, 8, none⟩ = some (.int .i64 4) ∧ (w3.alloc (.cells #[.int .i64 1, .int .i64 1, .int .i64 0, .int .i64 0, .int .i64 0, .int .i64 0, .int .i64 0, .int .i64 1, .int .i64 0, .slice none 0 0, .slice none 0 0, .int .i64 8, .int .i64 2, .int .i64 7, .int .i64 0, .int .i64 0, .int .i64 0, .int .i64 0, .int .i64 0, .int .i64 4, .slice none 0 0, .slice none 0 0] 35)).cell? ⟨x, 9, none⟩ = some (.slice none 0 0) ∧ (w3.alloc (.cells #[.int .i64 1, .int .i64 1, .int .i64 0, .int .i64 0, .int .i64 0, .int .i64 0, .int .i64 0, .int .i64 1, .int .i64 0, .slice none 0 0, .slice none 0 0, .int .i64 8, .int .i64 2, .int .i64 7, .int .i64 0, .int .i64 0, .int .i64 0, .int .i64 0, .int .i64 0, .int .i64 4, .slice none 0 0, .slice none 0 0] 35)).cell? ⟨x, 10, none⟩ = some (.slice none 0 0)) := HC.out _ HBV3.out
           clear hb3 b3))
    all_goals (
      go_wp2_with fail
      go_meet
      exact ⟨rfl, rfl, _, rfl, z, rfl, HZ.out⟩)
  case rest =>
    obtain ⟨rfl, rfl, y, rfl, HZ⟩ := hcut
    obtain ⟨W5, rfl⟩ : ∃ W4, W4 = wc := ⟨_, rfl⟩
    have HH : Hid ((∀ U, Below W5.heap.size W5 U → Calls Tryz.prog 12 #[.pointer (some ⟨y, 0, none⟩), .agg #[.int .i64 1, .int .i64 1, .int .i64 0, .int .i64 0, .int .i64 0, .int .i64 0, .int .i64 0, .int .i64 1, .int .i64 0, .slice none 0 0, .slice none 0 0]] U fun e w' => e = .returned (.int .i64 80) ∧ Below U.heap.size U w') ∧ (∀ U, Below W5.heap.size W5 U → Calls Tryz.prog 15 #[.pointer (some ⟨y, 0, none⟩), .agg #[.int .i64 2, .int .i64 7]] U fun e w' => e = .returned (.bool true) ∧ Below U.heap.size U w') ∧ (∀ U, Below W5.heap.size W5 U → Calls Tryz.prog 15 #[.pointer (some ⟨y, 0, none⟩), .agg #[.int .i64 2, .int .i64 8]] U fun e w' => e = .returned (.bool false) ∧ Below U.heap.size U w') ∧ (∀ U, Below W5.heap.size W5 U → Calls Tryz.prog 26 #[.pointer (some ⟨y, 0, none⟩)] U (StA U)) ∧ (∀ U, Below W5.heap.size W5 U → Calls Tryz.prog 17 #[.pointer (some ⟨y, 0, none⟩)] U fun e w' => ∃ a c, e = .returned (.slice a 2 c) ∧ Below U.heap.size U w') ∧ Below w.heap.size w W5) := by
      obtain ⟨z, hzy, hTn⟩ := HZ.out
      rw [show (.pointer (some ⟨y, 0, none⟩) : Value) = tP z from by rw [← hzy]]
      have sw7 : sW (2, 7) := sw_in (by decide) (by decide)
      have sw8 : sW (2, 8) := sw_in (by decide) (by decide)
      refine ⟨fun U hU => ?_, fun U hU => ?_, fun U hU => ?_, fun U hU => state_a (hTn.tw.below hU) hTn.ok, fun U hU => ?_, hTn.low⟩
      · have h := can_any (hTn.tw.below hU) hTn.ok (HT.out.below (hTn.low.trans (hU.mono hTn.low.size)) hkl) bR none none 0 0 0 0 (rin_nil U bR rfl rfl)
        rw [ta_can] at h
        exact h
      · have h := closed_any (hTn.tw.below hU) hTn.ok 2 7 sw7
        rw [ta_c7] at h
        exact h
      · have h := closed_any (hTn.tw.below hU) hTn.ok 2 8 sw8
        rw [ta_c8] at h
        exact h
      · refine (snapshot_any (hTn.tw.below hU) hTn.ok (ta_few.mono (by omega))).mono ?_
        rintro e w' ⟨a, n, c, L, rfl, e1, e2⟩
        have h1 := rr_len e2.row
        have h2 := congrArg List.length e1
        rw [List.length_map, ta_sn] at h2
        obtain rfl : n = 2 := by omega
        exact ⟨a, c, rfl, e2.low⟩
    clear HZ HC HC0 HV HLd hkl HT HB1
    go_upto_region 8 with fail
    go_upto_region 9 with (first
      | (go_at_call 12; refine (HH.out.1 _ HB6.out).mono ?_; rintro e w7 ⟨rfl, hb⟩; have HB7 : Hid (Below W5.heap.size W5 w7) := HB6.out.trans (hb.mono HB6.out.size); clear hb)
      | (go_at_call 30; refine (HBt.out _).mono ?_; rintro e w6 ⟨rfl, hb⟩; have HB6 : Hid (Below W5.heap.size W5 w6) := hb; clear hb))
    go_upto_region 10 with (go_at_call 15; refine (HH.out.2.1 _ HB7.out).mono ?_; rintro e w8 ⟨rfl, hb⟩; have HB8 : Hid (Below W5.heap.size W5 w8) := HB7.out.trans (hb.mono HB7.out.size); clear hb)
    go_upto_region 11 with (go_at_call 15; refine (HH.out.2.2.1 _ HB8.out).mono ?_; rintro e w9 ⟨rfl, hb⟩; have HB9 : Hid (Below W5.heap.size W5 w9) := HB8.out.trans (hb.mono HB8.out.size); clear hb)
    go_upto_region 12 with (go_at_call 26; refine (HH.out.2.2.2.1 _ HB9.out).mono ?_; rintro e w10 ⟨ao, ai, «at», no, co, ci, ct, rfl, hb⟩; have HB10 : Hid (Below W5.heap.size W5 w10) := HB9.out.trans (hb.mono HB9.out.size); clear hb)
    obtain ⟨g, hg⟩ : ∃ g, w10.heap.size = g := ⟨_, rfl⟩
    obtain ⟨V2, hV2⟩ : ∃ V2, w10.alloc (.cells #[.int .i64 1, .int .i64 1, .int .i64 1, .slice ao no co, .slice ai 1 ci, .slice «at» 0 ct] 58) = V2 := ⟨_, rfl⟩
    rw [hV2, hg]
    have hq2 : V2.heap[g]? = some (.cells #[.int .i64 1, .int .i64 1, .int .i64 1, .slice ao no co, .slice ai 1 ci, .slice «at» 0 ct] 58) := by rw [← hV2, ← hg]; exact heap_alloc_new' w10 _
    have HB11 : Hid (Below W5.heap.size W5 V2) := by show Below W5.heap.size W5 V2; rw [← hV2]; exact HB10.out.alloc HB10.out.size _
    clear hV2 hg
    go_upto_region 13 with (go_at_call 17; refine (HH.out.2.2.2.2.1 _ HB11.out).mono ?_; rintro e w12 ⟨as', cs', rfl, hb⟩; have hq3 := (hb.block g (Array.getElem?_eq_some_iff.1 hq2).1).trans hq2; have k2 : w12.cell? ⟨g, 2, none⟩ = some (.int .i64 1) := (cell_of_row _ _ _ _ _ _ hq3).trans rfl; have k4 : w12.cell? ⟨g, 4, none⟩ = some (.slice ai 1 ci) := (cell_of_row _ _ _ _ _ _ hq3).trans rfl; have k5 : w12.cell? ⟨g, 5, none⟩ = some (.slice «at» 0 ct) := (cell_of_row _ _ _ _ _ _ hq3).trans rfl; have HB12 : Hid (Below W5.heap.size W5 w12) := HB11.out.trans (hb.mono HB11.out.size); clear hb hq3)
    clear hq2
    go_wp2
    go_ret
    exact ⟨rfl, HH.out.2.2.2.2.2.trans (HB12.out.mono HH.out.2.2.2.2.2.size)⟩
end Go.Proofs.YtillgoegiplmkaaGreatDoor.B
