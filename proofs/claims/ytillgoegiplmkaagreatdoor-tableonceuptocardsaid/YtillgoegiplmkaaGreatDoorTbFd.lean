import Derived.Test.YtillgoegiplmkaaGreatDoorTbEo
import Derived.Test.YtillgoegiplmkaaGreatDoorTbDg
import Derived.Test.YtillgoegiplmkaaGreatDoorTbMq
import Derived.Test.YtillgoegiplmkaaGreatDoorTbG
import Derived.Deep.RegionHeld3
import Derived.Test.YtillgoegiplmkaaGreatDoorSpn
import Derived.WalkSmall
import Derived.Test.YtillgoegiplmkaaGreatDoorClmMath
import Derived.Test.YtillgoegiplmkaaGreatDoorTbK
namespace Go.Proofs.YtillgoegiplmkaaGreatDoor.B
open C
open Go.RowKit Go.Maps
set_option linter.unusedVariables false
set_option linter.unusedSimpArgs false

/-! ## What a snapshot's records are like -/
structure Nc (r : Rc) : Prop where
  sw : sW (sR r)
  sp : r.spans.length ≤ 1048576
  dl : r.data.length ≤ 1048576
  by' : Bytey r.data
theorem sw_in {a b : Int} (h1 : 0 ≤ a ∧ a ≤ mxN) (h2 : 0 ≤ b ∧ b ≤ mxN) : sW (a, b) := by
  have m : mxN = 4611686018427387903 := rfl
  exact ⟨i_w ⟨by show -9223372036854775808 ≤ a; omega, by show a ≤ 9223372036854775807; omega⟩, i_w ⟨by show -9223372036854775808 ≤ b; omega, by show b ≤ 9223372036854775807; omega⟩⟩
theorem Og.Ok.sw {d n : Int} {x : Og} (h : x.Ok d n) (hd : 0 ≤ d ∧ d ≤ mxN) : sW x.s := sw_in (by rw [h.org]; exact hd) (by have := h.num; omega)
theorem Ic.Ok.sw {d : Int} {x : Ic} (h : x.Ok d) : sW x.s := sw_in (by have := h.org; omega) (by have := h.num; omega)
theorem nc_0 {r : Rc} (h : sW (sR r)) (h1 : r.spans = []) (h2 : r.data = []) : Nc r := ⟨h, by rw [h1]; simp, by rw [h2]; simp, by rw [h2]; exact fun x hx => by cases hx⟩
theorem snap_nc {T : T8} (hok : T.Ok) : ∀ r ∈ T.snap, Nc r := fun r hr => by
  have m : mxN = 4611686018427387903 := rfl
  have z0 : sW (0, 0) := sw_in (by omega) (by omega)
  unfold T8.snap at hr
  split at hr
  · cases hr
  · rcases List.mem_cons.mp hr with e | hr
    · subst e
      exact nc_0 (r := { rc0 1 (T.id, 0) with size := T.boots }) (show sW (T.id, 0) from sw_in hok.id (by omega)) rfl rfl
    · rcases List.mem_append.mp hr with hr | hr
      · obtain ⟨x, hx, hr⟩ := List.mem_flatMap.mp hr
        have hxo := hok.ex x hx
        have hsw := hxo.sw hok.id
        rw [exR_eq] at hr
        rcases List.mem_cons.mp hr with e | hr
        · subst e
          refine ⟨hsw, by simp [opR, rc0], ?_, hxo.byt⟩
          have a := hxo.data
          have b := hxo.len
          show x.data.length ≤ 1048576
          omega
        · split at hr
          · simp only [List.mem_singleton] at hr
            subst hr
            exact nc_0 hsw rfl rfl
          · cases hr
      · rcases List.mem_append.mp hr with hr | hr
        · split at hr
          · simp only [List.mem_singleton] at hr
            subst hr
            exact nc_0 z0 rfl rfl
          · cases hr
        · rcases List.mem_append.mp hr with hr | hr
          · obtain ⟨i, hi, hr⟩ := List.mem_flatMap.mp hr
            have hio := hok.im i hi
            have hsw := hio.sw
            unfold imR at hr
            split at hr
            · simp only [List.mem_singleton] at hr
              subst hr
              exact nc_0 hsw rfl rfl
            · split at hr
              · simp only [List.mem_singleton] at hr
                subst hr
                exact nc_0 hsw rfl rfl
              · rcases List.mem_append.mp hr with hr | hr
                · obtain ⟨s, hs, rfl⟩ := List.mem_map.mp hr
                  have hdl : i.data.length ≤ 65536 := by
                    have a := hio.dat
                    have b := hio.most
                    split at a <;> omega
                  refine ⟨hsw, by simp [rdR8, rc0], ?_, fun y hy => ?_⟩
                  · show ((i.data.drop s.1.toNat).take (s.2 - s.1).toNat).length ≤ 1048576
                    simp only [List.length_take, List.length_drop]
                    omega
                  · exact hio.byt y (List.mem_of_mem_drop (List.mem_of_mem_take hy))
                · rcases List.mem_append.mp hr with hr | hr
                  · split at hr
                    · simp only [List.mem_singleton] at hr
                      subst hr
                      exact nc_0 hsw rfl rfl
                    · cases hr
                  · split at hr
                    · simp only [List.mem_singleton] at hr
                      subst hr
                      exact nc_0 hsw rfl rfl
                    · cases hr
          · obtain ⟨t, ht, rfl⟩ := List.mem_map.mp hr
            have h5 := (hok.tb t ht).2.2.2.2.1
            exact ⟨z0, by show t.2.length ≤ 1048576; omega, by simp [tbR, rc0], fun y hy => by cases hy⟩
theorem own_room8 {w : World} {b e s m n c : Nat} {a : Option Addr} {xs : List Value} (h : w.ownsRow b e s (.slice a n c) m xs) : n ≤ c ∧ c ≤ 9223372036854775807 ∧ (a = none → n = 0 ∧ c = 0) := by
  obtain ⟨_, ⟨q, q'⟩ | ⟨g', cap', cur, q, _, _, q2, q3, _⟩⟩ := h
  · simp only [Value.slice.injEq] at q
    exact ⟨by omega, by omega, fun _ => ⟨q.2.1, q.2.2⟩⟩
  · simp only [Value.slice.injEq] at q
    unfold maxLen at q3
    exact ⟨by omega, by omega, fun e => by rw [e] at q; cases q.1⟩
/-- A row of records of one's own is one that lies there. -/
theorem rr_rlx {lo : Nat} {w : World} {R : List Rv} {a : Option Addr} {n c : Nat} (h : RrR w lo (.slice a n c) R) (he : Els lo R w) (hb : ∀ x ∈ R, x.1.data.length ≤ 1048576 ∧ x.1.spans.length ≤ 1048576) : RLx w a (R.map Prod.fst) := by
  by_cases h0 : R = []
  · subst h0
    exact .inl rfl
  · right
    have hn := rr_len h
    have hpos : 0 < R.length := List.length_pos_iff.mpr h0
    have h' := h
    unfold RrR at h'
    rw [← hn] at h'
    obtain ⟨g, cp, eg, _, _⟩ := World.ownsRow.form h' (by omega)
    cases eg
    refine ⟨g, 0, rfl, fun i r hr => ?_⟩
    rw [List.getElem?_map] at hr
    obtain ⟨x, hx, rfl⟩ := Option.map_eq_some_iff.mp hr
    obtain ⟨r, sv, dv⟩ := x
    have hm := List.mem_of_getElem? hx
    obtain ⟨sa, ns, sc, e1⟩ := own_sl8 (he _ hm).1
    obtain ⟨da, nd, dc, e2⟩ := own_sl8 (he _ hm).2
    simp only at e1 e2
    subst e1
    subst e2
    have s1 := so_spa (he _ hm).1
    have y1 := byo_lies (he _ hm).2
    have r1 := own_room8 (he _ hm).2
    have hb1 := hb _ hm
    simp only at s1 y1 hb1
    obtain ⟨s1, s2⟩ := s1
    obtain ⟨y1, y2⟩ := y1
    subst s2
    subst y2
    refine ⟨sa, da, sc, dc, fun j u hj => ?_, ⟨rfl, rfl, by show r.data.length ≤ 140737488355328; omega, SOwn.ls (he _ hm).1 (by show r.spans.length ≤ 9223372036854775807; omega), y1, r1.2.2⟩, fun _ => ⟨r1.1, r1.2.1⟩⟩
    have hj11 : j < 11 := by
      have := (List.getElem?_eq_some_iff.mp (show (rcc (r, .slice sa r.spans.length sc, .slice da r.data.length dc))[j]? = some u by simpa [rcc, rcC] using hj)).1
      simpa [rcc] using this
    rw [Nat.zero_add]
    exact own_cell11 h' hx hj11 (by simpa [rcc, rcC] using hj)
theorem RJ.rlx {w w' : World} {T : T8} (hok : T.Ok) {R : List Rv} {a : Option Addr} {n c : Nat} (h : RJ w R (.slice a n c) w') (e : R.map Prod.fst = T.snap) : RLx w' a T.snap := by
  rw [← e]
  exact rr_rlx h.row h.el (fun x hx => by
    have := snap_nc hok x.1 (by rw [← e]; exact List.mem_map.mpr ⟨x, hx, rfl⟩)
    exact ⟨this.dl, this.sp⟩)
end Go.Proofs.YtillgoegiplmkaaGreatDoor.B

namespace Go.Proofs.YtillgoegiplmkaaGreatDoor.B
open C
open Go.RowKit Go.Maps
set_option linter.unusedVariables false
set_option linter.unusedSimpArgs false

/-! ## The law's small calls: boot, loaded -/
def bR : Rc := { rc0 1 (1, 0) with size := 1 }
set_option maxRecDepth 8000 in
set_option maxHeartbeats 4000000 in
theorem boot8_any (w : World) : Calls Tryz.prog 30 #[] w fun e w' => e = .returned (.agg (rcC bR (.slice none 0 0) (.slice none 0 0))) ∧ Below w.heap.size w w' := by
  have HB : Hid (Below w.heap.size w (w.alloc (.cells #[.int .i64 1, .int .i64 1, .int .i64 0, .int .i64 0, .int .i64 0, .int .i64 0, .int .i64 0, .int .i64 1, .int .i64 0, .slice none 0 0, .slice none 0 0] 35))) := (Below.refl _ _).alloc (Nat.le_refl _) _
  have HR : Hid ((w.alloc (.cells #[.int .i64 1, .int .i64 1, .int .i64 0, .int .i64 0, .int .i64 0, .int .i64 0, .int .i64 0, .int .i64 1, .int .i64 0, .slice none 0 0, .slice none 0 0] 35)).heap[w.heap.size]? = some (.cells #[.int .i64 1, .int .i64 1, .int .i64 0, .int .i64 0, .int .i64 0, .int .i64 0, .int .i64 0, .int .i64 1, .int .i64 0, .slice none 0 0, .slice none 0 0] 35 (0, 0))) := heap_alloc_new' w _
  go_enter Tryz.func30, Tryz.ntmps30
  go_wp2
  refine bodyPost_ret (results_cell_row (fn := Tryz.f30) (p := 0) (ty := 35) rfl _ _ w.heap.size _ _ _ _ rfl HR.out Tryz.underlying35 rfl (by kernel_rfl)) rfl ?_
  exact ⟨rfl, HB.out⟩
/-- Load of a row all of which can follow. -/
theorem load_ok {w : World} (hT : Tab6 w) (a : Option Addr) (n c : Nat) (l : List Rc) (hl : RLx w a l) (hn : l.length = n) (hby : ∀ r ∈ l, Bytey r.data) (hbig : n ≤ 140737488355328) {T : T8} (h : ld t0 0 l = (some T, 0, 0)) :
    Calls Tryz.prog 18 #[.slice a n c] w fun e w' => ∃ z, e = .returned (.tuple #[tP z, .int .i64 0, .int .i64 0]) ∧ Tn w z T w' := by
  refine (load_any hT a n c l hl hn hby hbig).mono ?_
  rintro e w' ⟨o, n', er, pv, q1, rfl, _, q2⟩
  rw [h] at q1
  simp only [Prod.mk.injEq] at q1
  obtain ⟨rfl, rfl, rfl⟩ := q1
  obtain ⟨z, rfl, q3⟩ := q2
  exact ⟨z, rfl, q3⟩
/-- What loaded leaves. -/
def LddP (n : Nat) (w : World) (e : Ending) (w' : World) : Prop := ∃ z T, e = .returned (tP z) ∧ Tn w z T w' ∧ T.Few n
def LddI (w : World) (x k : Nat) (W : World) : Prop := ∃ z T, z.x = x ∧ Tn w z T W ∧ T.Few k
theorem tn_new {w : World} {W : World} (h : Tw W (zNew w.heap.size) t0) (hb : Below w.heap.size w W) : Tn w (zNew w.heap.size) t0 W := ⟨h, ok_t0, hb, fun g hg => by
    unfold Tz.F zNew at hg
    simp only at hg
    split at hg
    · omega
    · split at hg
      · omega
      · split at hg
        · omega
        · split at hg
          · omega
          · exact absurd rfl hg⟩
set_option maxRecDepth 8000 in
set_option maxHeartbeats 4000000 in
theorem loaded_any {w : World} (hT : Tab6 w) (a : Option Addr) (n c : Nat) (l : List Rc) (hl : RLx w a l) (hn : l.length = n) (hby : ∀ r ∈ l, Bytey r.data) (hbig : n ≤ 140737488355328) : Calls Tryz.prog 25 #[.slice a n c] w (LddP n w) := by
  have hkl := kinds_lt hT
  have HH : Hid (Tab6 w ∧ RLx w a l ∧ l.length = n ∧ (∀ r ∈ l, Bytey r.data)) := ⟨hT, hl, hn, hby⟩
  have HN : Hid (Calls Tryz.prog 9 #[] w fun e w' => e = .returned (.pointer (some ⟨w.heap.size + 3, 0, none⟩)) ∧ LddI w (w.heap.size + 3) 0 w') := (new8_any w).mono fun e w' q => ⟨q.1, zNew w.heap.size, t0, rfl, tn_new q.2.1 q.2.2, few_t0⟩
  obtain ⟨X, hX⟩ : ∃ X, w.heap.size + 3 = X := ⟨_, rfl⟩
  rw [hX] at HN
  clear hT hl hn hby hX
  go_enter Tryz.func25, Tryz.ntmps25
  go_upto_region 2 with (go_at_call 9; refine HN.out.mono ?_; rintro e w1 ⟨rfl, hI0⟩)
  have HI0 : Hid (LddI w X 0 w1) := hI0
  clear hI0 HN
  go_wp2_with fail
  go_loopw [4] (fun i wr => ∃ k : Nat, i = .int .i64 k ∧ Hid (k ≤ n ∧ LddI w X k wr)) (fun i _ => n - (intOf i).toNat)
  case atStart => exact ⟨0, rfl, Nat.zero_le _, HI0.out⟩
  case round =>
    obtain ⟨k, rfl, hh⟩ := hrel
    have HK : Hid (k ≤ n ∧ LddI w X k wr) := hh.out
    clear hh HI0
    by_cases hlt : k < n
    · have hlt' : (k : Int) < (n : Int) := by omega
      have hkl' : k < l.length := by rw [HH.out.2.2.1]; exact hlt
      obtain ⟨r, hr⟩ : ∃ r, l[k]? = some r := ⟨l[k], List.getElem?_eq_getElem hkl'⟩
      obtain ⟨z, T, hzx, hTn, hfw⟩ := HK.out.2
      obtain ⟨g, off, sa, da, sc, dc, rfl, hc00, hri0, hro⟩ := (HH.out.2.1).at hr
      have hc : ∀ j u, (rcC r (.slice sa r.spans.length sc) (.slice da r.data.length dc))[j]? = some u → wr.cell? ⟨g, off + k * 11 + j, none⟩ = some u := fun j u hj => C.cell_below (hc00 j u hj) hTn.low
      have hri := hri0.below hTn.low
      have c0 := hc 0 _ rfl
      have c1 := hc 1 _ rfl
      have c2 := hc 2 _ rfl
      have c3 := hc 3 _ rfl
      have c4 := hc 4 _ rfl
      have c5 := hc 5 _ rfl
      have c6 := hc 6 _ rfl
      have c7 := hc 7 _ rfl
      have c8 := hc 8 _ rfl
      have c9 := hc 9 _ rfl
      have c10 := hc 10 _ rfl
      simp only [Nat.add_zero] at c0
      have hkb : 0 < wr.heap.size := Nat.lt_of_lt_of_le hkl hTn.low.size
      have hmem : r ∈ l := List.mem_of_getElem? hr
      have HAp : Hid (Calls Tryz.prog 19 #[.pointer (some ⟨X, 0, none⟩), .agg (rcC r (.slice sa r.spans.length sc) (.slice da r.data.length dc))] wr fun e w' => e = .returned (.int .i64 (T.can r)) ∧ LddI w X (k + 1) w') := by
        have ha := apply_at hTn.tw hTn.ok (HH.out.1.below hTn.low hkl) r sa da sc dc hri hro (fun h1 x hx e => by have e1 := hTn.new _ e; have e2 := lies_lt (hri0.lie) h1 x hx; omega)
        rw [show tP z = .pointer (some ⟨X, 0, none⟩) from by rw [← hzx]] at ha
        refine ha.mono fun e w' q => ?_
        obtain ⟨q1, z', q2, q3⟩ := q
        exact ⟨q1, z', T.app r, q3.x.trans hzx, hTn.up q2 q3 (app_ok hTn.ok (HH.out.2.2.2 r hmem)), few_app hfw r⟩
      obtain ⟨E, hE⟩ : ∃ E, T.can r = E := ⟨_, rfl⟩
      rw [hE] at HAp
      clear hE hc hc00 hri hri0 hro hTn hr hkb hmem hzx hfw
      generalize r.spans.length = ns at *
      generalize r.data.length = nd at *
      go_wp2_with (go_at_call 19; refine HAp.out.mono ?_; rintro e w2 ⟨rfl, hq⟩; have HQ : Hid (LddI w X (k + 1) w2) := hq; clear hq)
      go_roundw
      case rel => exact ⟨k + 1, by go_num, by omega, HQ.out⟩
      case measure => simp [intOf]; omega
    · have hkn : k = n := by have := HK.out.1; omega
      obtain ⟨z, T, hzx, hTn, hfw⟩ := HK.out.2
      have HQ : Hid (LddP n w (.returned (.pointer (some ⟨X, 0, none⟩))) wr) := ⟨z, T, by rw [← hzx], hTn, by rw [← hkn]; exact hfw⟩
      have hlt' : ¬ (k : Int) < (n : Int) := by omega
      clear hzx hTn hfw hkn
      go_wp2
      go_ret
      exact HQ.out
end Go.Proofs.YtillgoegiplmkaaGreatDoor.B

namespace Go.Proofs.YtillgoegiplmkaaGreatDoor.B
open C
open Go.RowKit Go.Maps
set_option linter.unusedVariables false
set_option linter.unusedSimpArgs false

/-! ## Awake of layer 8 -/
def gR : Rc := { rc0 8 (2, 7) with how := 4 }
def TA : T8 := ⟨1, 1, 1, [], [⟨2, 7, 0, 0, 0, [], [], false, true, false, false, 4⟩], []⟩
def TA1 : T8 := ⟨1, 1, 1, [], [], []⟩
theorem can_b : t0.can bR = 0 := by decide
theorem can_g : TA1.can gR = 0 := by decide
theorem ta_ld : ld t0 0 [bR, gR] = (some TA, 0, 0) := by
  have e1 : t0.then' bR = TA1 := rfl
  have e2 : TA1.then' gR = TA := rfl
  rw [ld, if_pos can_b, e1, ld, if_pos can_g, e2, ld]
theorem ta_can : TA.can bR = 80 := by decide
theorem ta_c7 : TA.closed (2, 7) = true := by decide
theorem ta_c8 : TA.closed (2, 8) = false := by decide
theorem ta_few : TA.Few 1 := ⟨by decide, by decide, by decide⟩
theorem ta_sn : TA.snap.length = 2 := by decide
def RA : List Rv := [(bR, nilV, nilV), (gR, nilV, nilV)]
theorem rin_nil (w : World) (r : Rc) (h1 : r.spans = []) (h2 : r.data = []) : RIn w r none none r.spans.length r.data.length 0 0 := by
  refine ⟨rfl, rfl, by rw [h2]; simp, ?_, by rw [h2]; exact .inl rfl, fun _ => ⟨by rw [h2]; rfl, rfl⟩⟩
  rw [h1]
  exact (SOwn.nil w 0).ls (by simp)
/-- What State tells of it. -/
def StA (W : World) (e : Ending) (w' : World) : Prop := ∃ ao ai «at» no co ci ct, e = .returned (.agg #[.int .i64 1, .int .i64 1, .int .i64 1, .slice ao no co, .slice ai 1 ci, .slice «at» 0 ct]) ∧ Below W.heap.size W w'
theorem state_a {W : World} {z : Tz} (h : Tw W z TA) (hok : TA.Ok) : Calls Tryz.prog 26 #[tP z] W (StA W) := by
  refine (state_any h hok (by decide) (by decide) (by decide)).mono ?_
  rintro e w' ⟨vo, vi, vt, P, Q, R, rfl, e1, e2, e3, st, hb⟩
  obtain ⟨ao, no, co, rfl⟩ := own_sl8 st.ro
  obtain ⟨ai, ni, ci, rfl⟩ := own_sl8 st.ri
  obtain ⟨«at», nt, ct, rfl⟩ := own_sl8 st.rt
  have a2 := own_len8 st.ri
  have a3 := own_len8 st.rt
  have b2 := congrArg List.length e2
  have b3 := congrArg List.length e3
  rw [List.length_map] at b2 b3
  have c2 : TA.im.length = 1 := rfl
  have c3 : TA.tb.length = 0 := rfl
  obtain rfl : ni = 1 := by omega
  obtain rfl : nt = 0 := by omega
  exact ⟨_, _, _, _, _, _, _, rfl, hb⟩
set_option maxRecDepth 8000 in
set_option maxHeartbeats 8000000 in
theorem awake8_any {w : World} (hT : Tab6 w) : Calls Tryz.prog 8 #[] w fun e w' => e = .returned (.bool true) ∧ Below w.heap.size w w' := by
  have hkl := kinds_lt hT
  have HT : Hid (Tab6 w) := hT
  have HBt : Hid (∀ U, Calls Tryz.prog 30 #[] U fun e w' => e = .returned (.agg #[.int .i64 1, .int .i64 1, .int .i64 0, .int .i64 0, .int .i64 0, .int .i64 0, .int .i64 0, .int .i64 1, .int .i64 0, .slice none 0 0, .slice none 0 0]) ∧ Below U.heap.size U w') := fun U => boot8_any U
  have HLd : Hid (∀ U, Below w.heap.size w U → Calls Tryz.prog 18 #[.slice (some ⟨U.heap.size, 0, none⟩) 2 2] (U.alloc (.cells #[.int .i64 1, .int .i64 1, .int .i64 0, .int .i64 0, .int .i64 0, .int .i64 0, .int .i64 0, .int .i64 1, .int .i64 0, .slice none 0 0, .slice none 0 0, .int .i64 8, .int .i64 2, .int .i64 7, .int .i64 0, .int .i64 0, .int .i64 0, .int .i64 0, .int .i64 0, .int .i64 4, .slice none 0 0, .slice none 0 0] 35)) fun e w' => ∃ z, e = .returned (.tuple #[tP z, .int .i64 0, .int .i64 0]) ∧ Tn (U.alloc (.cells #[.int .i64 1, .int .i64 1, .int .i64 0, .int .i64 0, .int .i64 0, .int .i64 0, .int .i64 0, .int .i64 1, .int .i64 0, .slice none 0 0, .slice none 0 0, .int .i64 8, .int .i64 2, .int .i64 7, .int .i64 0, .int .i64 0, .int .i64 0, .int .i64 0, .int .i64 0, .int .i64 4, .slice none 0 0, .slice none 0 0] 35)) z TA w') := fun U hU => by
    have hr : RrR (U.alloc (.cells #[.int .i64 1, .int .i64 1, .int .i64 0, .int .i64 0, .int .i64 0, .int .i64 0, .int .i64 0, .int .i64 1, .int .i64 0, .slice none 0 0, .slice none 0 0, .int .i64 8, .int .i64 2, .int .i64 7, .int .i64 0, .int .i64 0, .int .i64 0, .int .i64 0, .int .i64 0, .int .i64 4, .slice none 0 0, .slice none 0 0] 35)) 0 (.slice (some ⟨U.heap.size, 0, none⟩) 2 2) RA := rr_new U RA 2 rfl (by omega) (by omega) (Nat.zero_le _)
    have hb : Below w.heap.size w (U.alloc (.cells #[.int .i64 1, .int .i64 1, .int .i64 0, .int .i64 0, .int .i64 0, .int .i64 0, .int .i64 0, .int .i64 1, .int .i64 0, .slice none 0 0, .slice none 0 0, .int .i64 8, .int .i64 2, .int .i64 7, .int .i64 0, .int .i64 0, .int .i64 0, .int .i64 0, .int .i64 0, .int .i64 4, .slice none 0 0, .slice none 0 0] 35)) := hU.alloc hU.size _
    refine load_ok (hT.below hb hkl) _ 2 2 [bR, gR] (rr_rlx (R := RA) hr (fun x hx => ?_) (fun x hx => ?_)) rfl (fun r hr => ?_) (by omega) ta_ld
    · simp only [RA, List.mem_cons, List.not_mem_nil, or_false] at hx
      rcases hx with rfl | rfl <;> exact ⟨SOwn.nil _ _, World.ownsRow_nil _ _ _ _⟩
    · simp only [RA, List.mem_cons, List.not_mem_nil, or_false] at hx
      rcases hx with rfl | rfl <;> exact ⟨by decide, by decide⟩
    · simp only [List.mem_cons, List.not_mem_nil, or_false] at hr
      rcases hr with rfl | rfl <;> exact fun y hy => by cases hy
  clear hT
  go_enter Tryz.func8, Tryz.ntmps8
  go_upto_region 2 with (go_at_call 9; refine (new8_any w).mono ?_; rintro e w1 ⟨rfl, _, hb1⟩; have HB1 : Hid (Below w.heap.size w w1) := hb1; clear hb1)
  go_upto_region 5 with fail
  obtain ⟨x, hx⟩ : ∃ x, w1.heap.size = x := ⟨_, rfl⟩
  obtain ⟨V1, hV1⟩ : ∃ V1, w1.alloc (.cells #[.int .i64 8, .int .i64 2, .int .i64 7, .int .i64 0, .int .i64 0, .int .i64 0, .int .i64 0, .int .i64 0, .int .i64 4, .slice none 0 0, .slice none 0 0] 35) = V1 := ⟨_, rfl⟩
  rw [hV1, hx]
  have hq1 : V1.heap[x]? = some (.cells #[.int .i64 8, .int .i64 2, .int .i64 7, .int .i64 0, .int .i64 0, .int .i64 0, .int .i64 0, .int .i64 0, .int .i64 4, .slice none 0 0, .slice none 0 0] 35) := by rw [← hV1, ← hx]; exact heap_alloc_new' w1 _
  have hbV : Below w.heap.size w V1 := by rw [← hV1]; exact HB1.out.alloc HB1.out.size _
  have HV : Hid (Below w.heap.size w V1 ∧ x < V1.heap.size) := ⟨hbV, (Array.getElem?_eq_some_iff.1 hq1).1⟩
  have HC : Hid (∀ V : World, Below V1.heap.size V1 V → V.cell? ⟨x, 0, none⟩ = some (.int .i64 8) ∧ V.cell? ⟨x, 1, none⟩ = some (.int .i64 2) ∧ V.cell? ⟨x, 2, none⟩ = some (.int .i64 7) ∧ V.cell? ⟨x, 3, none⟩ = some (.int .i64 0) ∧ V.cell? ⟨x, 4, none⟩ = some (.int .i64 0) ∧ V.cell? ⟨x, 5, none⟩ = some (.int .i64 0) ∧ V.cell? ⟨x, 6, none⟩ = some (.int .i64 0) ∧ V.cell? ⟨x, 7, none⟩ = some (.int .i64 0) ∧ V.cell? ⟨x, 8, none⟩ = some (.int .i64 4) ∧ V.cell? ⟨x, 9, none⟩ = some (.slice none 0 0) ∧ V.cell? ⟨x, 10, none⟩ = some (.slice none 0 0)) := fun V q => by
    have q2 := (q.block x HV.out.2).trans hq1
    refine ⟨?_, ?_, ?_, ?_, ?_, ?_, ?_, ?_, ?_, ?_, ?_⟩ <;> exact (cell_of_row _ _ _ _ _ _ q2).trans rfl
  have HC0 := HC.out V1 (Below.refl _ _)
  clear hV1 hq1 hbV hx
  go_wp2_with fail
  go_cut [3, 4, 5] from 16 to 23 (fun q3 q4 q5 wx => q4 = .int .i64 0 ∧ q5 = .int .i64 0 ∧ ∃ y, q3 = .pointer (some ⟨y, 0, none⟩) ∧ Hid (∃ z, z.x = y ∧ Tn w z TA wx))
  case first =>
    go_region_held3 (fun V => V.cell? ⟨x, 0, none⟩ = some (.int .i64 8) ∧ V.cell? ⟨x, 1, none⟩ = some (.int .i64 2) ∧ V.cell? ⟨x, 2, none⟩ = some (.int .i64 7) ∧ V.cell? ⟨x, 3, none⟩ = some (.int .i64 0) ∧ V.cell? ⟨x, 4, none⟩ = some (.int .i64 0) ∧ V.cell? ⟨x, 5, none⟩ = some (.int .i64 0) ∧ V.cell? ⟨x, 6, none⟩ = some (.int .i64 0) ∧ V.cell? ⟨x, 7, none⟩ = some (.int .i64 0) ∧ V.cell? ⟨x, 8, none⟩ = some (.int .i64 4) ∧ V.cell? ⟨x, 9, none⟩ = some (.slice none 0 0) ∧ V.cell? ⟨x, 10, none⟩ = some (.slice none 0 0))
      (first | exact HC0 | exact HC3.out | exact HC4.out | exact HC5.out)
      (first
        | (go_at_call 18
           go_loud (
             refine (HLd.out w3 HB3.out).mono ?_
             rintro e w5 ⟨z, rfl, q5⟩
             have hbl : Below w3.heap.size w3 (w3.alloc (.cells #[.int .i64 1, .int .i64 1, .int .i64 0, .int .i64 0, .int .i64 0, .int .i64 0, .int .i64 0, .int .i64 1, .int .i64 0, .slice none 0 0, .slice none 0 0, .int .i64 8, .int .i64 2, .int .i64 7, .int .i64 0, .int .i64 0, .int .i64 0, .int .i64 0, .int .i64 0, .int .i64 4, .slice none 0 0, .slice none 0 0] 35)) := (Below.refl _ _).alloc (Nat.le_refl _) _
             have hlow : Below w.heap.size w w5 := HB3.out.trans ((hbl.trans (q5.low.mono hbl.size)).mono HB3.out.size)
             have HZ : Hid (Tn w z TA w5) := ⟨q5.tw, q5.ok, hlow, fun g hg => by have a := q5.new g hg; have b := HB3.out.size; have c := hbl.size; omega⟩
             clear hbl hlow)
           have HC5 : Hid (w5.cell? ⟨x, 0, none⟩ = some (.int .i64 8) ∧ w5.cell? ⟨x, 1, none⟩ = some (.int .i64 2) ∧ w5.cell? ⟨x, 2, none⟩ = some (.int .i64 7) ∧ w5.cell? ⟨x, 3, none⟩ = some (.int .i64 0) ∧ w5.cell? ⟨x, 4, none⟩ = some (.int .i64 0) ∧ w5.cell? ⟨x, 5, none⟩ = some (.int .i64 0) ∧ w5.cell? ⟨x, 6, none⟩ = some (.int .i64 0) ∧ w5.cell? ⟨x, 7, none⟩ = some (.int .i64 0) ∧ w5.cell? ⟨x, 8, none⟩ = some (.int .i64 4) ∧ w5.cell? ⟨x, 9, none⟩ = some (.slice none 0 0) ∧ w5.cell? ⟨x, 10, none⟩ = some (.slice none 0 0)) := HC.out w5 (HBV3.out.trans (q5.low.mono HBV3.out.size))
           clear q5)
        | (go_at_call 30
           refine (HBt.out _).mono ?_
           rintro e w3 ⟨rfl, b3⟩
           have hb3 : Below V1.heap.size V1 w3 := ⟨b3.os, b3.tape, b3.output, b3.size, b3.block⟩
           have HB3 : Hid (Below w.heap.size w w3) := HV.out.1.trans (hb3.mono HV.out.1.size)
           have HC3 : Hid (w3.cell? ⟨x, 0, none⟩ = some (.int .i64 8) ∧ w3.cell? ⟨x, 1, none⟩ = some (.int .i64 2) ∧ w3.cell? ⟨x, 2, none⟩ = some (.int .i64 7) ∧ w3.cell? ⟨x, 3, none⟩ = some (.int .i64 0) ∧ w3.cell? ⟨x, 4, none⟩ = some (.int .i64 0) ∧ w3.cell? ⟨x, 5, none⟩ = some (.int .i64 0) ∧ w3.cell? ⟨x, 6, none⟩ = some (.int .i64 0) ∧ w3.cell? ⟨x, 7, none⟩ = some (.int .i64 0) ∧ w3.cell? ⟨x, 8, none⟩ = some (.int .i64 4) ∧ w3.cell? ⟨x, 9, none⟩ = some (.slice none 0 0) ∧ w3.cell? ⟨x, 10, none⟩ = some (.slice none 0 0)) := HC.out w3 hb3
           have HBV3 : Hid (Below V1.heap.size V1 (w3.alloc (.cells #[.int .i64 1, .int .i64 1, .int .i64 0, .int .i64 0, .int .i64 0, .int .i64 0, .int .i64 0, .int .i64 1, .int .i64 0, .slice none 0 0, .slice none 0 0, .int .i64 8, .int .i64 2, .int .i64 7, .int .i64 0, .int .i64 0, .int .i64 0, .int .i64 0, .int .i64 0, .int .i64 4, .slice none 0 0, .slice none 0 0] 35))) := hb3.alloc hb3.size _
           have HC4 : Hid ((w3.alloc (.cells #[.int .i64 1, .int .i64 1, .int .i64 0, .int .i64 0, .int .i64 0, .int .i64 0, .int .i64 0, .int .i64 1, .int .i64 0, .slice none 0 0, .slice none 0 0, .int .i64 8, .int .i64 2, .int .i64 7, .int .i64 0, .int .i64 0, .int .i64 0, .int .i64 0, .int .i64 0, .int .i64 4, .slice none 0 0, .slice none 0 0] 35)).cell? ⟨x, 0, none⟩ = some (.int .i64 8) ∧ (w3.alloc (.cells #[.int .i64 1, .int .i64 1, .int .i64 0, .int .i64 0, .int .i64 0, .int .i64 0, .int .i64 0, .int .i64 1, .int .i64 0, .slice none 0 0, .slice none 0 0, .int .i64 8, .int .i64 2, .int .i64 7, .int .i64 0, .int .i64 0, .int .i64 0, .int .i64 0, .int .i64 0, .int .i64 4, .slice none 0 0, .slice none 0 0] 35)).cell? ⟨x, 1, none⟩ = some (.int .i64 2) ∧ (w3.alloc (.cells #[.int .i64 1, .int .i64 1, .int .i64 0, .int .i64 0, .int .i64 0, .int .i64 0, .int .i64 0, .int .i64 1, .int .i64 0, .slice none 0 0, .slice none 0 0, .int .i64 8, .int .i64 2, .int .i64 7, .int .i64 0, .int .i64 0, .int .i64 0, .int .i64 0, .int .i64 0, .int .i64 4, .slice none 0 0, .slice none 0 0] 35)).cell? ⟨x, 2, none⟩ = some (.int .i64 7) ∧ (w3.alloc (.cells #[.int .i64 1, .int .i64 1, .int .i64 0, .int .i64 0, .int .i64 0, .int .i64 0, .int .i64 0, .int .i64 1, .int .i64 0, .slice none 0 0, .slice none 0 0, .int .i64 8, .int .i64 2, .int .i64 7, .int .i64 0, .int .i64 0, .int .i64 0, .int .i64 0, .int .i64 0, .int .i64 4, .slice none 0 0, .slice none 0 0] 35)).cell? ⟨x, 3, none⟩ = some (.int .i64 0) ∧ (w3.alloc (.cells #[.int .i64 1, .int .i64 1, .int .i64 0, .int .i64 0, .int .i64 0, .int .i64 0, .int .i64 0, .int .i64 1, .int .i64 0, .slice none 0 0, .slice none 0 0, .int .i64 8, .int .i64 2, .int .i64 7, .int .i64 0, .int .i64 0, .int .i64 0, .int .i64 0, .int .i64 0, .int .i64 4, .slice none 0 0, .slice none 0 0] 35)).cell? ⟨x, 4, none⟩ = some (.int .i64 0) ∧ (w3.alloc (.cells #[.int .i64 1, .int .i64 1, .int .i64 0, .int .i64 0, .int .i64 0, .int .i64 0, .int .i64 0, .int .i64 1, .int .i64 0, .slice none 0 0, .slice none 0 0, .int .i64 8, .int .i64 2, .int .i64 7, .int .i64 0, .int .i64 0, .int .i64 0, .int .i64 0, .int .i64 0, .int .i64 4, .slice none 0 0, .slice none 0 0] 35)).cell? ⟨x, 5, none⟩ = some (.int .i64 0) ∧ (w3.alloc (.cells #[.int .i64 1, .int .i64 1, .int .i64 0, .int .i64 0, .int .i64 0, .int .i64 0, .int .i64 0, .int .i64 1, .int .i64 0, .slice none 0 0, .slice none 0 0, .int .i64 8, .int .i64 2, .int .i64 7, .int .i64 0, .int .i64 0, .int .i64 0, .int .i64 0, .int .i64 0, .int .i64 4, .slice none 0 0, .slice none 0 0] 35)).cell? ⟨x, 6, none⟩ = some (.int .i64 0) ∧ (w3.alloc (.cells #[.int .i64 1, .int .i64 1, .int .i64 0, .int .i64 0, .int .i64 0, .int .i64 0, .int .i64 0, .int .i64 1, .int .i64 0, .slice none 0 0, .slice none 0 0, .int .i64 8, .int .i64 2, .int .i64 7, .int .i64 0, .int .i64 0, .int .i64 0, .int .i64 0, .int .i64 0, .int .i64 4, .slice none 0 0, .slice none 0 0] 35)).cell? ⟨x, 7, none⟩ = some (.int .i64 0) ∧ (w3.alloc (.cells #[.int .i64 1, .int .i64 1, .int .i64 0, .int .i64 0, .int .i64 0, .int .i64 0, .int .i64 0, .int .i64 1, .int .i64 0, .slice none 0 0, .slice none 0 0, .int .i64 8, .int .i64 2, .int .i64 7, .int .i64 0, .int .i64 0, .int .i64 0, .int .i64 0, .int .i64 0, .int .i64 4, .slice none 0 0, .slice none 0 0] 35)).cell? ⟨x, 8, none⟩ = some (.int .i64 4) ∧ (w3.alloc (.cells #[.int .i64 1, .int .i64 1, .int .i64 0, .int .i64 0, .int .i64 0, .int .i64 0, .int .i64 0, .int .i64 1, .int .i64 0, .slice none 0 0, .slice none 0 0, .int .i64 8, .int .i64 2, .int .i64 7, .int .i64 0, .int .i64 0, .int .i64 0, .int .i64 0, .int .i64 0, .int .i64 4, .slice none 0 0, .slice none 0 0] 35)).cell? ⟨x, 9, none⟩ = some (.slice none 0 0) ∧ (w3.alloc (.cells #[.int .i64 1, .int .i64 1, .int .i64 0, .int .i64 0, .int .i64 0, .int .i64 0, .int .i64 0, .int .i64 1, .int .i64 0, .slice none 0 0, .slice none 0 0, .int .i64 8, .int .i64 2, .int .i64 7, .int .i64 0, .int .i64 0, .int .i64 0, .int .i64 0, .int .i64 0, .int .i64 4, .slice none 0 0, .slice none 0 0] 35)).cell? ⟨x, 10, none⟩ = some (.slice none 0 0)) := HC.out _ HBV3.out
           clear hb3 b3))
    all_goals (
      go_wp2_with fail
      go_meet
      exact ⟨rfl, rfl, _, rfl, z, rfl, HZ.out⟩)
  case rest =>
    obtain ⟨rfl, rfl, y, rfl, HZ⟩ := hcut
    obtain ⟨W5, rfl⟩ : ∃ W4, W4 = wc := ⟨_, rfl⟩
    have HH : Hid ((∀ U, Below W5.heap.size W5 U → Calls Tryz.prog 12 #[.pointer (some ⟨y, 0, none⟩), .agg #[.int .i64 1, .int .i64 1, .int .i64 0, .int .i64 0, .int .i64 0, .int .i64 0, .int .i64 0, .int .i64 1, .int .i64 0, .slice none 0 0, .slice none 0 0]] U fun e w' => e = .returned (.int .i64 80) ∧ Below U.heap.size U w') ∧ (∀ U, Below W5.heap.size W5 U → Calls Tryz.prog 15 #[.pointer (some ⟨y, 0, none⟩), .agg #[.int .i64 2, .int .i64 7]] U fun e w' => e = .returned (.bool true) ∧ Below U.heap.size U w') ∧ (∀ U, Below W5.heap.size W5 U → Calls Tryz.prog 15 #[.pointer (some ⟨y, 0, none⟩), .agg #[.int .i64 2, .int .i64 8]] U fun e w' => e = .returned (.bool false) ∧ Below U.heap.size U w') ∧ (∀ U, Below W5.heap.size W5 U → Calls Tryz.prog 26 #[.pointer (some ⟨y, 0, none⟩)] U (StA U)) ∧ (∀ U, Below W5.heap.size W5 U → Calls Tryz.prog 17 #[.pointer (some ⟨y, 0, none⟩)] U fun e w' => ∃ a c, e = .returned (.slice a 2 c) ∧ Below U.heap.size U w') ∧ Below w.heap.size w W5) := by
      obtain ⟨z, hzy, hTn⟩ := HZ.out
      rw [show (.pointer (some ⟨y, 0, none⟩) : Value) = tP z from by rw [← hzy]]
      have sw7 : sW (2, 7) := sw_in (by decide) (by decide)
      have sw8 : sW (2, 8) := sw_in (by decide) (by decide)
      refine ⟨fun U hU => ?_, fun U hU => ?_, fun U hU => ?_, fun U hU => state_a (hTn.tw.below hU) hTn.ok, fun U hU => ?_, hTn.low⟩
      · have h := can_any (hTn.tw.below hU) hTn.ok (HT.out.below (hTn.low.trans (hU.mono hTn.low.size)) hkl) bR none none 0 0 0 0 (rin_nil U bR rfl rfl)
        rw [ta_can] at h
        exact h
      · have h := closed_any (hTn.tw.below hU) hTn.ok 2 7 sw7
        rw [ta_c7] at h
        exact h
      · have h := closed_any (hTn.tw.below hU) hTn.ok 2 8 sw8
        rw [ta_c8] at h
        exact h
      · refine (snapshot_any (hTn.tw.below hU) hTn.ok (ta_few.mono (by omega))).mono ?_
        rintro e w' ⟨a, n, c, L, rfl, e1, e2⟩
        have h1 := rr_len e2.row
        have h2 := congrArg List.length e1
        rw [List.length_map, ta_sn] at h2
        obtain rfl : n = 2 := by omega
        exact ⟨a, c, rfl, e2.low⟩
    clear HZ HC HC0 HV HLd hkl HT HB1
    go_upto_region 8 with fail
    go_upto_region 9 with (first
      | (go_at_call 12; refine (HH.out.1 _ HB6.out).mono ?_; rintro e w7 ⟨rfl, hb⟩; have HB7 : Hid (Below W5.heap.size W5 w7) := HB6.out.trans (hb.mono HB6.out.size); clear hb)
      | (go_at_call 30; refine (HBt.out _).mono ?_; rintro e w6 ⟨rfl, hb⟩; have HB6 : Hid (Below W5.heap.size W5 w6) := hb; clear hb))
    go_upto_region 10 with (go_at_call 15; refine (HH.out.2.1 _ HB7.out).mono ?_; rintro e w8 ⟨rfl, hb⟩; have HB8 : Hid (Below W5.heap.size W5 w8) := HB7.out.trans (hb.mono HB7.out.size); clear hb)
    go_upto_region 11 with (go_at_call 15; refine (HH.out.2.2.1 _ HB8.out).mono ?_; rintro e w9 ⟨rfl, hb⟩; have HB9 : Hid (Below W5.heap.size W5 w9) := HB8.out.trans (hb.mono HB8.out.size); clear hb)
    go_upto_region 12 with (go_at_call 26; refine (HH.out.2.2.2.1 _ HB9.out).mono ?_; rintro e w10 ⟨ao, ai, «at», no, co, ci, ct, rfl, hb⟩; have HB10 : Hid (Below W5.heap.size W5 w10) := HB9.out.trans (hb.mono HB9.out.size); clear hb)
    obtain ⟨g, hg⟩ : ∃ g, w10.heap.size = g := ⟨_, rfl⟩
    obtain ⟨V2, hV2⟩ : ∃ V2, w10.alloc (.cells #[.int .i64 1, .int .i64 1, .int .i64 1, .slice ao no co, .slice ai 1 ci, .slice «at» 0 ct] 58) = V2 := ⟨_, rfl⟩
    rw [hV2, hg]
    have hq2 : V2.heap[g]? = some (.cells #[.int .i64 1, .int .i64 1, .int .i64 1, .slice ao no co, .slice ai 1 ci, .slice «at» 0 ct] 58) := by rw [← hV2, ← hg]; exact heap_alloc_new' w10 _
    have HB11 : Hid (Below W5.heap.size W5 V2) := by show Below W5.heap.size W5 V2; rw [← hV2]; exact HB10.out.alloc HB10.out.size _
    clear hV2 hg
    go_upto_region 13 with (go_at_call 17; refine (HH.out.2.2.2.2.1 _ HB11.out).mono ?_; rintro e w12 ⟨as', cs', rfl, hb⟩; have hq3 := (hb.block g (Array.getElem?_eq_some_iff.1 hq2).1).trans hq2; have k2 : w12.cell? ⟨g, 2, none⟩ = some (.int .i64 1) := (cell_of_row _ _ _ _ _ _ hq3).trans rfl; have k4 : w12.cell? ⟨g, 4, none⟩ = some (.slice ai 1 ci) := (cell_of_row _ _ _ _ _ _ hq3).trans rfl; have k5 : w12.cell? ⟨g, 5, none⟩ = some (.slice «at» 0 ct) := (cell_of_row _ _ _ _ _ _ hq3).trans rfl; have HB12 : Hid (Below W5.heap.size W5 w12) := HB11.out.trans (hb.mono HB11.out.size); clear hb hq3)
    clear hq2
    go_wp2
    go_ret
    exact ⟨rfl, HH.out.2.2.2.2.2.trans (HB12.out.mono HH.out.2.2.2.2.2.size)⟩
end Go.Proofs.YtillgoegiplmkaaGreatDoor.B

namespace Go.Proofs.YtillgoegiplmkaaGreatDoor.B
open C
open Go.RowKit Go.Maps
set_option linter.unusedVariables false
set_option linter.unusedSimpArgs false

theorem few_st {T : T8} (h : T.Few 1048576) : T.ex.length ≤ 1099511627776 ∧ T.im.length ≤ 1099511627776 ∧ T.tb.length ≤ 1099511627776 := ⟨by have := h.ex; omega, by have := h.im; omega, by have := h.tb; omega⟩
/-- Same of two states of one table. -/
theorem same_st {w : World} {T : T8} (hok : T.Ok) (hf : T.Few 1048576) {lo lo2 : Nat} {vo vi vt vp vj vu : Value} {P P2 : List (Og × Value)} {Q Q2 : List (Ic × Value × Value)} {R R2 : List (Tm × Value)} (h : StR lo vo vi vt P Q R w) (h2 : StR lo2 vp vj vu P2 Q2 R2 w) (e1 : P.map Prod.fst = T.ex) (e2 : Q.map Prod.fst = T.im) (e3 : R.map Prod.fst = T.tb) (f1 : P2.map Prod.fst = T.ex) (f2 : Q2.map Prod.fst = T.im) (f3 : R2.map Prod.fst = T.tb) :
    Calls Tryz.prog 27 #[.agg #[.int .i64 T.id, .int .i64 T.boots, .int .i64 T.next, vo, vi, vt], .agg #[.int .i64 T.id, .int .i64 T.boots, .int .i64 T.next, vp, vj, vu]] w fun e w' => e = .returned (.bool true) ∧ Below w.heap.size w w' := by
  have l1 := congrArg List.length e1
  have l2 := congrArg List.length e2
  have l3 := congrArg List.length e3
  rw [List.length_map] at l1 l2 l3
  have g1 := hf.ex
  have g2 := hf.im
  have g3 := hf.tb
  refine same8_any w lo lo2 _ _ _ _ _ _ _ _ _ P P2 Q Q2 R R2 h h2 (e1.trans f1.symm) (e2.trans f2.symm) (e3.trans f3.symm) (fun p hp => ?_) (fun q hq => ?_) (fun r hr => ?_) (by omega) (by omega) (by omega)
  · exact (hok.ex p.1 (by rw [← e1]; exact List.mem_map.mpr ⟨p, hp, rfl⟩)).sw hok.id
  · have a := hok.im q.1 (by rw [← e2]; exact List.mem_map.mpr ⟨q, hq, rfl⟩)
    exact ⟨a.sw, by have := a.few; omega⟩
  · have a := (hok.tb r.1 (by rw [← e3]; exact List.mem_map.mpr ⟨r, hr, rfl⟩)).2.2.2.2.1
    omega
/-- SameRecords of two rows that are one snapshot. -/
theorem same_sn {w : World} {T : T8} (hok : T.Ok) (hf : T.Few 1048576) {lo lo2 : Nat} {va vb : Value} {X Y : List Rv} (hX : RrR w lo va X) (hY : RrR w lo2 vb Y) (eX : Els lo X w) (eY : Els lo2 Y w) (e1 : X.map Prod.fst = T.snap) (e2 : Y.map Prod.fst = T.snap) :
    Calls Tryz.prog 28 #[va, vb] w fun e w' => e = .returned (.bool true) ∧ Below w.heap.size w w' := by
  have hl := congrArg List.length e1
  rw [List.length_map] at hl
  have hs := snap_len T
  have hh := havs_le (l := T.im) (fun i hi => (hok.im i hi).few)
  have g1 := hf.ex
  have g2 := hf.im
  have g3 := hf.tb
  have nc : ∀ x ∈ X, Nc x.1 := fun x hx => snap_nc hok x.1 (by rw [← e1]; exact List.mem_map.mpr ⟨x, hx, rfl⟩)
  exact sameRecords8_eq w lo lo2 va vb X Y hX hY eX eY (e1.trans e2.symm) (fun x hx => (nc x hx).sw) (fun x hx => (nc x hx).sp) X.length rfl (by omega)
theorem havs_take {l : List Ic} {k : Nat} {i : Ic} (h : l[k]? = some i) : havs (l.take (k + 1)) = havs (l.take k) + i.hv.length := by
  rw [take_one h]
  unfold havs
  rw [List.map_append, List.sum_append]
  simp
set_option maxRecDepth 8000 in
set_option maxHeartbeats 16000000 in
/-- THE LAW'S WALK: TableEnough. -/
theorem enough_walk {w : World} (hT : Tab6 w) (a : Option Addr) (n c : Nat) (l : List Rc) (hl : RLx w a l) (hn : l.length = n) (hby : ∀ r ∈ l, Bytey r.data) (hbig : n ≤ 1048576) : Calls Tryz.prog 5 #[.slice a n c] w fun e w' => e = .returned (.bool true) ∧ Below w.heap.size w w' := by
  have hkl := kinds_lt hT
  have HH : Hid (Tab6 w ∧ 0 < w.heap.size) := ⟨hT, hkl⟩
  have HAw := awake8_any hT
  have HLd : Hid (∀ U, Below w.heap.size w U → Calls Tryz.prog 25 #[.slice a n c] U (LddP n U)) := fun U hU => loaded_any (hT.below hU hkl) a n c l (hl.below hU) hn hby (by omega)
  have HAw : Hid (Calls Tryz.prog 8 #[] w fun e w' => e = .returned (.bool true) ∧ Below w.heap.size w w') := HAw
  clear hT hl hn hby hkl
  go_enter Tryz.func5, Tryz.ntmps5
  go_upto_region 2 with (go_at_call 8; refine HAw.out.mono ?_; rintro e w1 ⟨rfl, hb1⟩; have HB1 : Hid (Below w.heap.size w w1) := hb1; clear hb1)
  go_upto_region 3 with (go_at_call 25; refine (HLd.out w1 HB1.out).mono ?_; rintro e w2 ⟨z, T, rfl, tn, fw⟩; have H2 : Hid (Tn w1 z T w2 ∧ T.Few 1048576 ∧ Below w.heap.size w w2) := ⟨tn, fw.mono hbig, HB1.out.trans (tn.low.mono HB1.out.size)⟩; clear tn fw)
  clear HAw HLd HB1
  have HSn : Hid (Calls Tryz.prog 17 #[tP z] w2 (SnP T w2)) := snapshot_any H2.out.1.tw H2.out.1.ok H2.out.2.1
  obtain ⟨X, hX⟩ : ∃ X, z.x = X := ⟨_, rfl⟩
  rw [show tP z = .pointer (some ⟨X, 0, none⟩) from by rw [← hX]] at HSn
  have HX : Hid (z.x = X) := hX
  have hzX : tP z = .pointer (some ⟨X, 0, none⟩) := by rw [← hX]
  first | rw [hzX] | rw [hX]
  clear hX hzX
  go_upto_region 6 with (go_at_call 17; refine HSn.out.mono ?_; rintro e w3 ⟨sa, sn, sc, L, rfl, eL, rj⟩; have H3 : Hid (L.map Prod.fst = T.snap ∧ RJ w2 L (.slice sa sn sc) w3) := ⟨eL, rj⟩; clear eL rj)
  clear HSn
  have HLo : Hid (Calls Tryz.prog 18 #[.slice sa sn sc] w3 fun e w' => ∃ z, e = .returned (.tuple #[tP z, .int .i64 0, .int .i64 0]) ∧ Tn w3 z T w') := by
    have hb := H2.out.2.2.trans (H3.out.2.low.mono H2.out.2.2.size)
    have hs := rr_len H3.out.2.row
    have hl := congrArg List.length H3.out.1
    rw [List.length_map] at hl
    have hq := snap_len T
    have hh := havs_le (l := T.im) (fun i hi => (H2.out.1.ok.im i hi).few)
    have g1 := H2.out.2.1.ex
    have g2 := H2.out.2.1.im
    have g3 := H2.out.2.1.tb
    exact load_ok (HH.out.1.below hb HH.out.2) sa sn sc T.snap (H3.out.2.rlx H2.out.1.ok H3.out.1) (by omega) (fun r hr => (snap_nc H2.out.1.ok r hr).by') (by omega) (snap_ld H2.out.1.ok)
  go_upto_region 7 with (go_at_call 18; refine HLo.out.mono ?_; rintro e w4 ⟨z2, rfl, tn⟩; have H4 : Hid (Tn w3 z2 T w4) := tn; clear tn)
  clear HLo
  obtain ⟨Y, hY⟩ : ∃ Y, z2.x = Y := ⟨_, rfl⟩
  have HY : Hid (z2.x = Y) := hY
  have hzY : tP z2 = .pointer (some ⟨Y, 0, none⟩) := by rw [← hY]
  first | rw [hzY] | rw [hY]
  clear hY hzY
  have HB4 : Hid (Below w2.heap.size w2 w4) := H3.out.2.low.trans (H4.out.low.mono H3.out.2.low.size)
  have HSt : Hid (Calls Tryz.prog 26 #[.pointer (some ⟨X, 0, none⟩)] w4 (StP T w4)) := by
    have h := state_any (H2.out.1.tw.below HB4.out) H2.out.1.ok (few_st H2.out.2.1).1 (few_st H2.out.2.1).2.1 (few_st H2.out.2.1).2.2
    rw [show tP z = .pointer (some ⟨X, 0, none⟩) from by rw [← HX.out]] at h
    exact h
  go_upto_region 10 with (go_at_call 26; refine HSt.out.mono ?_; rintro e w5 ⟨vo, vi, vt, P, Q, R, rfl, e1, e2, e3, st, b5⟩; obtain ⟨ao, no, co, rfl⟩ := own_sl8 st.ro; obtain ⟨ai, ni, ci, rfl⟩ := own_sl8 st.ri; obtain ⟨«at», nt, ct, rfl⟩ := own_sl8 st.rt; have H5 : Hid (P.map Prod.fst = T.ex ∧ Q.map Prod.fst = T.im ∧ R.map Prod.fst = T.tb ∧ StR w4.heap.size (.slice ao no co) (.slice ai ni ci) (.slice «at» nt ct) P Q R w5 ∧ Below w4.heap.size w4 w5) := ⟨e1, e2, e3, st, b5⟩; clear e1 e2 e3 st b5)
  clear HSt
  obtain ⟨x, hx⟩ : ∃ x, w5.heap.size = x := ⟨_, rfl⟩
  obtain ⟨V5, hV5⟩ : ∃ V5, w5.alloc (.cells #[.int .i64 T.id, .int .i64 T.boots, .int .i64 T.next, .slice ao no co, .slice ai ni ci, .slice «at» nt ct] 58) = V5 := ⟨_, rfl⟩
  rw [hV5, hx]
  have HV5 : Hid (V5.heap[x]? = some (.cells #[.int .i64 T.id, .int .i64 T.boots, .int .i64 T.next, .slice ao no co, .slice ai ni ci, .slice «at» nt ct] 58) ∧ Below w5.heap.size w5 V5) := ⟨by rw [← hV5, ← hx]; exact heap_alloc_new' w5 _, by rw [← hV5]; exact (Below.refl _ _).alloc (Nat.le_refl _) _⟩
  clear hV5 hx
  have HB5 : Hid (Below w4.heap.size w4 V5) := H5.out.2.2.2.2.trans (HV5.out.2.mono H5.out.2.2.2.2.size)
  have HSt : Hid (Calls Tryz.prog 26 #[.pointer (some ⟨Y, 0, none⟩)] V5 (StP T V5)) := by
    have h := state_any (H4.out.tw.below HB5.out) H2.out.1.ok (few_st H2.out.2.1).1 (few_st H2.out.2.1).2.1 (few_st H2.out.2.1).2.2
    rw [show tP z2 = .pointer (some ⟨Y, 0, none⟩) from by rw [← HY.out]] at h
    exact h
  go_upto_region 11 with (go_at_call 26; refine HSt.out.mono ?_; rintro e w6 ⟨vo, vi, vt, P2, Q2, R2, rfl, e1, e2, e3, st, b5⟩; obtain ⟨bo, mo, do9, rfl⟩ := own_sl8 st.ro; obtain ⟨bi, mi, di, rfl⟩ := own_sl8 st.ri; obtain ⟨bt, mt, dt, rfl⟩ := own_sl8 st.rt; have H6 : Hid (P2.map Prod.fst = T.ex ∧ Q2.map Prod.fst = T.im ∧ R2.map Prod.fst = T.tb ∧ StR V5.heap.size (.slice bo mo do9) (.slice bi mi di) (.slice bt mt dt) P2 Q2 R2 w6 ∧ Below V5.heap.size V5 w6) := ⟨e1, e2, e3, st, b5⟩; clear e1 e2 e3 st b5)
  clear HSt
  obtain ⟨y, hy⟩ : ∃ y, w6.heap.size = y := ⟨_, rfl⟩
  obtain ⟨V6, hV6⟩ : ∃ V6, w6.alloc (.cells #[.int .i64 T.id, .int .i64 T.boots, .int .i64 T.next, .slice bo mo do9, .slice bi mi di, .slice bt mt dt] 58) = V6 := ⟨_, rfl⟩
  rw [hV6, hy]
  have HV6 : Hid (V6.heap[y]? = some (.cells #[.int .i64 T.id, .int .i64 T.boots, .int .i64 T.next, .slice bo mo do9, .slice bi mi di, .slice bt mt dt] 58) ∧ Below w6.heap.size w6 V6) := ⟨by rw [← hV6, ← hy]; exact heap_alloc_new' w6 _, by rw [← hV6]; exact (Below.refl _ _).alloc (Nat.le_refl _) _⟩
  clear hV6 hy
  have HB6 : Hid (Below V5.heap.size V5 V6) := H6.out.2.2.2.2.trans (HV6.out.2.mono H6.out.2.2.2.2.size)
  have HSn : Hid (Calls Tryz.prog 17 #[.pointer (some ⟨Y, 0, none⟩)] V6 (SnP T V6)) := by
    have h := snapshot_any ((H4.out.tw.below HB5.out).below HB6.out) H2.out.1.ok H2.out.2.1
    rw [show tP z2 = .pointer (some ⟨Y, 0, none⟩) from by rw [← HY.out]] at h
    exact h
  go_upto_region 12 with (go_at_call 17; refine HSn.out.mono ?_; rintro e w7 ⟨ta, tn, tc, L2, rfl, eL, rj⟩; have H7 : Hid (L2.map Prod.fst = T.snap ∧ RJ V6 L2 (.slice ta tn tc) w7) := ⟨eL, rj⟩; clear eL rj)
  clear HSn
  have HC : Hid (∀ W : World, Below w7.heap.size w7 W → (W.cell? ⟨x, 0, none⟩ = some (.int .i64 T.id) ∧ W.cell? ⟨x, 1, none⟩ = some (.int .i64 T.boots) ∧ W.cell? ⟨x, 2, none⟩ = some (.int .i64 T.next) ∧ W.cell? ⟨x, 3, none⟩ = some (.slice ao no co) ∧ W.cell? ⟨x, 4, none⟩ = some (.slice ai ni ci) ∧ W.cell? ⟨x, 5, none⟩ = some (.slice «at» nt ct)) ∧ (W.cell? ⟨y, 0, none⟩ = some (.int .i64 T.id) ∧ W.cell? ⟨y, 1, none⟩ = some (.int .i64 T.boots) ∧ W.cell? ⟨y, 2, none⟩ = some (.int .i64 T.next) ∧ W.cell? ⟨y, 3, none⟩ = some (.slice bo mo do9) ∧ W.cell? ⟨y, 4, none⟩ = some (.slice bi mi di) ∧ W.cell? ⟨y, 5, none⟩ = some (.slice bt mt dt))) := fun W hW => by
    have hb := H7.out.2.low.trans (hW.mono H7.out.2.low.size)
    have g2 := (hb.block y (Array.getElem?_eq_some_iff.1 HV6.out.1).1).trans HV6.out.1
    have hc := HB6.out.trans (hb.mono HB6.out.size)
    have g1 := (hc.block x (Array.getElem?_eq_some_iff.1 HV5.out.1).1).trans HV5.out.1
    refine ⟨⟨?_, ?_, ?_, ?_, ?_, ?_⟩, ?_, ?_, ?_, ?_, ?_, ?_⟩ <;> first | exact (cell_of_row _ _ _ _ _ _ g1).trans rfl | exact (cell_of_row _ _ _ _ _ _ g2).trans rfl
  have HS1 : Hid (StR w4.heap.size (.slice ao no co) (.slice ai ni ci) (.slice «at» nt ct) P Q R w7) := by
    have h1 := H5.out.2.2.2.1.below HV5.out.2
    exact (h1.below HB6.out).below H7.out.2.low
  have HS2 : Hid (StR V5.heap.size (.slice bo mo do9) (.slice bi mi di) (.slice bt mt dt) P2 Q2 R2 w7) := (H6.out.2.2.2.1.below HV6.out.2).below H7.out.2.low
  have HSm : Hid (Calls Tryz.prog 27 #[.agg #[.int .i64 T.id, .int .i64 T.boots, .int .i64 T.next, .slice ao no co, .slice ai ni ci, .slice «at» nt ct], .agg #[.int .i64 T.id, .int .i64 T.boots, .int .i64 T.next, .slice bo mo do9, .slice bi mi di, .slice bt mt dt]] w7 fun e w' => e = .returned (.bool true) ∧ Below w7.heap.size w7 w') := same_st H2.out.1.ok H2.out.2.1 HS1.out HS2.out H5.out.1 H5.out.2.1 H5.out.2.2.1 H6.out.1 H6.out.2.1 H6.out.2.2.1
  obtain ⟨⟨a0, a1, a2, a3, a4, a5⟩, b0, b1, b2, b3, b4, b5⟩ := HC.out w7 (Below.refl _ _)
  go_upto_region 13 with (go_at_call 27; refine HSm.out.mono ?_; rintro e w8 ⟨rfl, b8⟩; have HB8 : Hid (Below w7.heap.size w7 w8) := b8; clear b8)
  clear HSm a0 a1 a2 a3 a4 a5 b0 b1 b2 b3 b4 b5
  have HB7 : Hid (Below w3.heap.size w3 w8) := by
    have h1 := H4.out.low.trans (HB5.out.mono H4.out.low.size)
    have h2 := h1.trans (HB6.out.mono h1.size)
    have h3 := h2.trans (H7.out.2.low.mono h2.size)
    exact h3.trans (HB8.out.mono h3.size)
  have HSr : Hid (Calls Tryz.prog 28 #[.slice sa sn sc, .slice ta tn tc] w8 fun e w' => e = .returned (.bool true) ∧ Below w8.heap.size w8 w') := by
    have r1 := H3.out.2.below HB7.out
    have r2 := H7.out.2.below HB8.out
    exact same_sn H2.out.1.ok H2.out.2.1 r1.row r2.row r1.el r2.el H3.out.1 H7.out.1
  go_upto_region 14 with (go_at_call 28; refine HSr.out.mono ?_; rintro e w9 ⟨rfl, b9⟩; have HB9 : Hid (Below w7.heap.size w7 w9) := HB8.out.trans (b9.mono HB8.out.size); have HBa : Hid (Below w.heap.size w w9) := (by
    have h1 := H2.out.2.2.trans (H3.out.2.low.mono H2.out.2.2.size)
    have h2 := h1.trans (HB7.out.mono h1.size)
    exact h2.trans (b9.mono h2.size)); clear b9)
  clear HSr
  have HNn : Hid (no = T.ex.length ∧ ni = T.im.length ∧ nt = T.tb.length ∧ Q.length = ni ∧ sn = T.snap.length) := by
    have c1 := own_len8 HS1.out.ro
    have c2 := own_len8 HS1.out.ri
    have c3 := own_len8 HS1.out.rt
    have d1 := congrArg List.length H5.out.1
    have d2 := congrArg List.length H5.out.2.1
    have d3 := congrArg List.length H5.out.2.2.1
    have d4 := congrArg List.length H3.out.1
    have d5 := rr_len H3.out.2.row
    rw [List.length_map] at d1 d2 d3 d4
    exact ⟨by omega, by omega, by omega, by omega, by omega⟩
  have ho : no ≤ 1048576 := by have a := HNn.out.1; have b := H2.out.2.1.ex; omega
  have hi : ni ≤ 1048576 := by have a := HNn.out.2.1; have b := H2.out.2.1.im; omega
  have ht : nt ≤ 1048576 := by have a := HNn.out.2.2.1; have b := H2.out.2.1.tb; omega
  obtain ⟨A1, hA1⟩ : ∃ A1 : Nat, A1 = 2 * no := ⟨_, rfl⟩
  obtain ⟨A2, hA2⟩ : ∃ A2 : Nat, A2 = 2 + A1 := ⟨_, rfl⟩
  obtain ⟨A3, hA3⟩ : ∃ A3 : Nat, A3 = 2 * ni := ⟨_, rfl⟩
  obtain ⟨A4, hA4⟩ : ∃ A4 : Nat, A4 = A2 + A3 := ⟨_, rfl⟩
  obtain ⟨A5, hA5⟩ : ∃ A5 : Nat, A5 = A4 + nt := ⟨_, rfl⟩
  have x1 : IntKind.i64.wrap (2 * (no : Int)) = (A1 : Int) := by rw [IntKind.wrap_i64]; omega
  have x2 : IntKind.i64.wrap (2 + (A1 : Int)) = (A2 : Int) := by rw [IntKind.wrap_i64]; omega
  have x3 : IntKind.i64.wrap (2 * (ni : Int)) = (A3 : Int) := by rw [IntKind.wrap_i64]; omega
  have x4 : IntKind.i64.wrap ((A2 : Int) + (A3 : Int)) = (A4 : Int) := by rw [IntKind.wrap_i64]; omega
  have x5 : IntKind.i64.wrap ((A4 : Int) + (nt : Int)) = (A5 : Int) := by rw [IntKind.wrap_i64]; omega
  have HA5 : Hid (A5 = 2 + 2 * T.ex.length + 2 * T.im.length + T.tb.length ∧ A5 ≤ 6000000) := ⟨by have := HNn.out; omega, by omega⟩
  obtain ⟨⟨_, _, _, a3, a4, a5⟩, _⟩ := HC.out w9 HB9.out
  clear hA1 hA2 hA3 hA4 hA5
  go_upto_region 15 with fail
  clear x1 x2 x3 x4 x5 a3 a5
  go_wp2_with fail
  clear a4
  go_loopw [14, 15] (fun m i wr => ∃ k M : Nat, i = .int .i64 k ∧ m = .int .i64 M ∧ Hid (k ≤ ni ∧ M = A5 + havs (T.im.take k) ∧ M ≤ 6000000 + 2000 * k ∧ wr = w9)) (fun _ i _ => ni - (intOf i).toNat)
  case atStart => exact ⟨0, A5, rfl, rfl, Nat.zero_le _, by simp [havs], by have := HA5.out.2; omega, rfl⟩
  case round =>
    obtain ⟨k, M, rfl, rfl, hh⟩ := hrel
    obtain ⟨⟨_, _, _, _, a4, _⟩, _⟩ := HC.out w9 HB9.out
    rw [← hh.out.2.2.2] at a4
    by_cases hlt : k < ni
    · have hlt' : (k : Int) < (ni : Int) := by omega
      have h0k : 0 ≤ (k : Int) := by omega
      obtain ⟨hk, hM, hMb, hw⟩ := hh.out
      obtain ⟨⟨i, zu, zv⟩, hQk⟩ := get_some Q k (by have := HNn.out.2.2.2.1; omega)
      have hri := (HS1.out.below HB9.out).ri
      rw [HNn.out.2.2.2.1] at hri
      rw [← hw] at hri
      obtain ⟨au, nu, cu, e1⟩ := own_sl8 ((HS1.out.pi _ (List.mem_of_getElem? hQk)).1)
      have e2 := own_len8 (e1 ▸ (HS1.out.pi _ (List.mem_of_getElem? hQk)).1)
      simp only at e1 e2
      subst e1
      obtain ⟨g, cp, e3, _, _⟩ := World.ownsRow.form hri (by omega)
      cases e3
      have p5 : wr.cell? ⟨g, k * 12 + 5, none⟩ = some (.slice au nu cu) := own_cell12 hri hQk (j := 5) (by decide) rfl
      have hiT : T.im[k]? = some i := by rw [← H5.out.2.1, List.getElem?_map, hQk]; rfl
      have hfew := (H2.out.1.ok.im i (List.mem_of_getElem? hiT)).few
      obtain ⟨M', hM'⟩ : ∃ M' : Nat, M' = M + nu := ⟨_, rfl⟩
      have x1 : IntKind.i64.wrap ((M : Int) + (nu : Int)) = (M' : Int) := by rw [IntKind.wrap_i64]; omega
      have HRel : Hid (k + 1 ≤ ni ∧ M' = A5 + havs (T.im.take (k + 1)) ∧ M' ≤ 6000000 + 2000 * (k + 1) ∧ wr = w9) := ⟨by omega, by rw [havs_take hiT]; omega, by omega, hw⟩
      clear hk hM hMb hw hQk hri e2 hiT hfew hM' hh
      go_wp2
      go_roundw
      case rel => exact ⟨k + 1, M', by go_num, rfl, HRel.out⟩
      case measure => simp [intOf]; omega
    · have hkn : k = ni := by have := hh.out.1; omega
      obtain ⟨hk, hM, hMb, hw⟩ := hh.out
      have hle : (sn : Int) ≤ (M : Int) := by
        have a1 := snap_len T
        have a2 := HNn.out
        have a3 : T.im.take k = T.im := by rw [hkn, a2.2.1]; exact List.take_length
        rw [a3] at hM
        have a4 := HA5.out.1
        omega
      have HBw : Hid (Below w.heap.size w wr) := by show Below w.heap.size w wr; rw [hw]; exact HBa.out
      have hlt' : ¬ (k : Int) < (ni : Int) := by omega
      clear hk hM hMb hw hh hkn
      go_wp2
      go_ret
      exact ⟨rfl, HBw.out⟩
end Go.Proofs.YtillgoegiplmkaaGreatDoor.B

namespace Go.Proofs.YtillgoegiplmkaaGreatDoor.C
open Go.RowKit

theorem refasked_any (f t : Int) (w : World) : Calls Tryz.prog 132 #[.agg #[.int .i64 f, .int .i64 t]] w fun e w' => e = .returned (.bool (askB (f, t))) ∧ Below w.heap.size w w' := by
  have hb : Below w.heap.size w (w.alloc (.cells #[.int .i64 f, .int .i64 t] 90)) := (Below.refl _ _).alloc (Nat.le_refl _) _
  have HB : Hid (Below w.heap.size w (w.alloc (.cells #[.int .i64 f, .int .i64 t] 90))) := hb
  clear hb
  go_enter Tryz.func132, Tryz.ntmps132
  by_cases h1 : 0 ≤ f
  · by_cases h2 : f ≤ t
    · by_cases h3 : t ≤ 4611686018427387903
      · go_wp2
        go_ret
        exact ⟨by simp [askB, h1, h2, h3], HB.out⟩
      · go_wp2
        go_ret
        exact ⟨by simp [askB]; omega, HB.out⟩
    · go_wp2
      go_ret
      exact ⟨by simp [askB]; omega, HB.out⟩
  · go_wp2
    go_ret
    exact ⟨by simp [askB]; omega, HB.out⟩

theorem refmay_any (f t : Int) (w : World) : Calls Tryz.prog 126 #[.agg #[.int .i64 f, .int .i64 t]] w fun e w' => e = .returned (.bool (mayB (f, t))) ∧ Below w.heap.size w w' := by
  have hb : Below w.heap.size w (w.alloc (.cells #[.int .i64 f, .int .i64 t] 90)) := (Below.refl _ _).alloc (Nat.le_refl _) _
  have HB : Hid (Below w.heap.size w (w.alloc (.cells #[.int .i64 f, .int .i64 t] 90))) := hb
  clear hb
  go_enter Tryz.func126, Tryz.ntmps126
  by_cases h1 : 0 ≤ f
  · by_cases h2 : f < t
    · have h2' : f ≤ t := by omega
      by_cases h3 : t ≤ 4611686018427387903
      · go_wp2
        go_ret
        exact ⟨by simp [mayB, askB, h1, h2, h2', h3], HB.out⟩
      · go_wp2
        go_ret
        exact ⟨by simp [mayB, askB]; omega, HB.out⟩
    · go_wp2
      go_ret
      exact ⟨by simp [mayB, askB]; omega, HB.out⟩
  · go_wp2
    go_ret
    exact ⟨by simp [mayB, askB]; omega, HB.out⟩

/-- Where the next span may begin. -/
def lst (l : List Sp) (k : Nat) : Int := match k with
  | 0 => 0
  | k + 1 => (l.getD k (0, 0)).2 + 1

set_option maxHeartbeats 1000000 in
theorem refright_any (a : Option Addr) (c : Nat) (l : List Sp) (w : World) (h : Spa w a l) (hm : l.length ≤ 9223372036854775807) : Calls Tryz.prog 69 #[.slice a l.length c] w fun e w' => e = .returned (.bool (setB l)) ∧ Below w.heap.size w w' := by
  have HS : Hid (Spa w a l) := h
  clear h
  go_enter Tryz.func69, Tryz.ntmps69
  by_cases h2 : 2000 < l.length
  · have h2' : (2000 : Int) < (l.length : Int) := by omega
    have HV : Hid (setB l = false) := by unfold Hid setB; rw [decide_eq_false (by omega)]; rfl
    generalize setB l = V at *
    go_wp2
    go_ret
    exact ⟨by rw [HV.out]; rfl, Below.refl _ _⟩
  · have h2' : ¬ (2000 : Int) < (l.length : Int) := by omega
    have HE : Hid (rtB 0 l = setB l) := by unfold Hid setB; rw [decide_eq_true (by omega)]; rfl
    generalize setB l = V at *
    go_wp2_with fail
    go_loopw [3] (fun i wr => ∃ (k : Nat), k ≤ l.length ∧ i = .int .i64 k ∧ Below w.heap.size w wr ∧ rtB (lst l k) (l.drop k) = V) (fun i _ => l.length - (intOf i).toNat)
    case atStart => exact ⟨0, by omega, rfl, Below.refl _ _, HE.out⟩
    case round =>
      obtain ⟨k, hk, rfl, hbe, hrt⟩ := hrel
      have HBe : Hid (Below w.heap.size w wr) := hbe
      have HR : Hid (rtB (lst l k) (l.drop k) = V) := hrt
      clear hbe hrt HE
      by_cases hlt : k < l.length
      · have hlt' : (k : Int) < (l.length : Int) := by omega
        obtain ⟨p, hp⟩ := get_some l k hlt
        obtain ⟨g, off, rfl, q1, q2⟩ := (HS.out.below HBe.out).at hp
        rw [drop_get l k p hp] at HR
        obtain ⟨p1, p2⟩ := p
        simp only at q1 q2
        have HR2 : Hid ((mayB (p1, p2) && (decide (lst l k ≤ p1) && rtB (p2 + 1) (l.drop (k + 1)))) = V) := HR.out
        have hA := refmay_any p1 p2 wr
        have HM : Hid (mayB (p1, p2) = true → 0 ≤ p1 ∧ p1 < p2 ∧ p2 ≤ 4611686018427387903) := by
          intro h; simp [mayB, askB] at h; omega
        have HL : Hid (lst l (k + 1) = p2 + 1) := by unfold Hid lst; simp only; rw [List.getD_eq_getElem?_getD, hp]; rfl
        clear HR
        generalize mayB (p1, p2) = m at *
        go_wp2_with fail
        refine hA.mono ?_
        rintro e w2 ⟨rfl, hb2⟩
        clear hA q1 q2
        have HB2 : Hid (Below w.heap.size w w2) := HBe.out.trans (hb2.mono HBe.out.size)
        clear hb2 HBe
        cases m with
        | false =>
          have HV : Hid (V = false) := HR2.out.symm
          clear HR2 HM HL hp
          go_wp2_with fail
          go_quiet (fail)
          go_wp2
          go_ret
          exact ⟨by rw [HV.out]; rfl, below_drewN HB2.out _⟩
        | true =>
          obtain ⟨m1, m2, m3⟩ := HM.out rfl
          clear HM
          by_cases hk0 : k = 0
          · subst hk0
            have HR3 : Hid (rtB (lst l (0 + 1)) (l.drop (0 + 1)) = V) := by
              have := HR2.out; rw [decide_eq_true (show lst l 0 ≤ p1 from m1)] at this; rw [Hid, HL.out]; exact this
            clear HR2 HL hp
            go_wp2_with fail
            go_quiet (fail)
            go_wp2
            go_roundw
            case rel => exact ⟨0 + 1, by omega, by go_num, below_drewN HB2.out _, HR3.out⟩
            case measure => simp [intOf]; omega
          · obtain ⟨j, rfl⟩ : ∃ j, k = j + 1 := ⟨k - 1, by omega⟩
            obtain ⟨u, hu⟩ := get_some l j (by omega)
            obtain ⟨g', off', he, r1, r2⟩ := (HS.out.below HB2.out).at hu
            obtain ⟨g2, off2, he2, t1, t2⟩ := (HS.out.below HB2.out).at hp
            simp only [Option.some.injEq, Addr.mk.injEq, and_true] at he he2
            obtain ⟨rfl, rfl⟩ := he
            obtain ⟨rfl, rfl⟩ := he2
            obtain ⟨u1, u2⟩ := u
            have HLs : Hid (lst l (j + 1) = u2 + 1) := by unfold Hid lst; simp only; rw [List.getD_eq_getElem?_getD, hu]; rfl
            rw [HLs.out] at HR2
            simp only at r1 r2 t1 t2
            have hj : (0 : Int) < ((j + 1 : Nat) : Int) := by omega
            clear hu hp HLs
            by_cases e1 : p1 ≤ u2
            · have HV : Hid (V = false) := by have := HR2.out; rw [decide_eq_false (by omega)] at this; exact this.symm
              clear HR2 HL
              have hd : decide (p1 ≤ u2) = true := decide_eq_true e1
              go_wp2_with fail
              go_quiet (fail)
              go_wp2
              go_ret
              exact ⟨by rw [HV.out]; rfl, below_drewN HB2.out _⟩
            · have HR3 : Hid (rtB (lst l (j + 1 + 1)) (l.drop (j + 1 + 1)) = V) := by
                have := HR2.out; rw [decide_eq_true (show u2 + 1 ≤ p1 by omega)] at this; rw [Hid, HL.out]; exact this
              clear HR2 HL
              have hd : decide (p1 ≤ u2) = false := decide_eq_false e1
              go_wp2_with fail
              go_quiet (fail)
              go_wp2
              go_roundw
              case rel => exact ⟨j + 1 + 1, by omega, by go_num, below_drewN HB2.out _, HR3.out⟩
              case measure => simp [intOf]; omega
      · have hkn : k = l.length := by omega
        have HV : Hid (V = true) := by have := HR.out; rw [hkn, List.drop_length] at this; exact this.symm
        clear HR
        subst hkn
        go_wp2
        go_ret
        exact ⟨by rw [HV.out]; rfl, HBe.out⟩

end Go.Proofs.YtillgoegiplmkaaGreatDoor.C

namespace Go.Proofs.YtillgoegiplmkaaGreatDoor.B
open C
set_option linter.unusedVariables false
set_option linter.unusedSimpArgs false

/-- What was in it still is. -/
theorem has_upto : ∀ {l : List Sp} {lo x : Int} {k : Nat}, Rt lo l → k < l.length → has l x = true → ((l.getD 0 (0, 0)).1 ≤ x ∧ x < (l.getD k (0, 0)).2) ∨ has (l.drop (k + 1)) x = true
  | [], _, _, _, _, hk, _ => by simp at hk
  | a :: r, lo, x, 0, h, _, hx => by
      rw [has_cons] at hx
      simpa using hx
  | a :: r, lo, x, k + 1, h, hk, hx => by
      obtain ⟨a1, a2, a3, a4⟩ := h
      have hk' : k < r.length := by simpa using hk
      obtain ⟨b1, b2, b3, b4⟩ := rt_at a4 hk'
      have b0 := rt_first a4 (by omega)
      rw [has_cons] at hx
      simp only [List.getD_cons_zero, List.getD_cons_succ, List.drop_succ_cons]
      rcases hx with hx | hx
      · left; omega
      · rcases has_upto a4 hk' hx with h' | h'
        · left; omega
        · right; exact h'
theorem nar_has {l : List Sp} {lo x : Int} (h : Rt lo l) (hx : has l x = true) : has (nar l) x = true := by
  unfold nar
  split
  · exact hx
  · rename_i hl
    have hk : l.length - 500 < l.length := by omega
    generalize l.length - 500 = k at hk ⊢
    rw [has_cons]
    exact has_upto h hk hx
end Go.Proofs.YtillgoegiplmkaaGreatDoor.B

namespace Go.Proofs.YtillgoegiplmkaaGreatDoor.B
open C
set_option linter.unusedVariables false
set_option linter.unusedSimpArgs false

/-! ## What is closed stays closed -/
theorem fi_putI {T : T8} (h : T.Ok) (i : Ic) (s : Int × Int) : (T.putI i).fi s = if i.s = s then some i else T.fi s := fnd_ins ordS h.ims
theorem ft_bury {T : T8} (h : T.Ok) (o : Int) (l : List Sp) (o' : Int) : (T.bury o l).ft o' = if o = o' then nar (uns (T.ft o) l) else T.ft o' := by
  show (match fnd (Prod.fst : Tm → Int) o' (ins ltI Prod.fst (o, nar (uns (T.ft o) l)) T.tb) with | some x => x.2 | none => []) = _
  rw [fnd_ins ordI h.tbs]
  by_cases e : o = o'
  · rw [if_pos e, if_pos e]
  · rw [if_neg e, if_neg e]; rfl
theorem ft_more {T : T8} (h : T.Ok) {o : Int} {l : List Sp} (hl : Rt 1 l) {o' x : Int} (hx : has (T.ft o') x = true) : has ((T.bury o l).ft o') x = true := by
  rw [ft_bury h]
  split
  · rename_i e
    subst e
    have hr := (h.ft o).1
    refine nar_has (rt1_uns hr hl) ?_
    rw [(uns_all (hr.mono (by omega)) hl (by omega)).all, hx, Bool.true_or]
  · exact hx
/-- An import is changed, and is still closed if it was. -/
theorem closed_putI {T : T8} (h : T.Ok) {i : Ic} {s : Int × Int} (hs : i.s = s → T.closed s = true → i.gone = true ∨ i.shut = true) (hc : T.closed s = true) : (T.putI i).closed s = true := by
  unfold T8.closed
  rw [fi_putI h]
  by_cases e : i.s = s
  · rw [if_pos e]
    have := hs e hc
    simpa using this
  · rw [if_neg e]
    exact hc
theorem closed_bury {T : T8} (h : T.Ok) {o : Int} {l : List Sp} (hl : Rt 1 l) {s : Int × Int} (hc : T.closed s = true) : (T.bury o l).closed s = true := by
  unfold T8.closed at hc ⊢
  show (match T.fi s with | some i => i.gone || i.shut | none => has ((T.bury o l).ft s.1) s.2) = true
  cases e : T.fi s with
  | some i => rw [e] at hc; exact hc
  | none => rw [e] at hc; exact ft_more h hl hc
theorem closed_settle {T : T8} (h : T.Ok) (h0 : T.id ≠ 0) {i : Ic} (hn : 1 ≤ i.num ∧ i.num < mxN) {s : Int × Int} (hs : i.s = s → T.closed s = true → i.gone = true ∨ i.shut = true) (hc : T.closed s = true) : (T.settle i).closed s = true := by
  unfold T8.settle
  split
  · have hl : Rt 1 [(i.num, i.num + 1)] := ⟨hn.1, by simp only; omega, by simp only [mxN] at hn ⊢; omega, trivial⟩
    have h' := ok_rmI (s := i.s) h h0
    unfold T8.closed
    show (match fnd Ic.s s (rm Ic.s i.s T.im) with | some i => i.gone || i.shut | none => has ((({ T with im := rm Ic.s i.s T.im } : T8).bury i.org [(i.num, i.num + 1)]).ft s.1) s.2) = true
    rw [fnd_rm]
    by_cases e : i.s = s
    · rw [if_pos e]
      subst e
      show has ((({ T with im := rm Ic.s i.s T.im } : T8).bury i.org [(i.num, i.num + 1)]).ft i.org) i.num = true
      rw [ft_bury h', if_pos rfl]
      refine nar_has (rt1_uns (h'.ft i.org).1 hl) ?_
      rw [(uns_all ((h'.ft i.org).1.mono (by omega)) hl (by omega)).all]
      rw [has_one, show inn (i.num, i.num + 1) i.num = true from inn_iff.mpr ⟨by simp only; omega, by simp only; omega⟩, Bool.or_true]
    · rw [if_neg e]
      unfold T8.closed T8.fi at hc
      cases q : fnd Ic.s s T.im with
      | some j => rw [q] at hc; exact hc
      | none =>
        rw [q] at hc
        exact ft_more h' hl hc
  · exact closed_putI h hs hc

set_option maxHeartbeats 1000000 in
/-- WHAT IS CLOSED STAYS CLOSED, whatever follows. -/
theorem closed_then {T : T8} {r : Rc} (h : T.Ok) (hm : MayR r) (hf : T.folw r = true) {s : Int × Int} (hc : T.closed s = true) : (T.then' r).closed s = true := by
  unfold T8.folw at hf
  unfold T8.then'
  by_cases c1 : r.kind = 1
  · rw [if_pos c1]; exact hc
  rw [if_neg c1] at hf ⊢
  by_cases z : T.id = 0
  · rw [if_pos z] at hf; cases hf
  rw [if_neg z] at hf
  by_cases c2 : r.kind = 2
  · rw [if_pos c2]; exact hc
  rw [if_neg c2] at hf ⊢
  by_cases c3 : r.kind = 3
  · rw [if_pos c3]; exact hc
  rw [if_neg c3] at hf ⊢
  by_cases c4 : r.kind = 4
  · rw [if_pos c4]; split <;> exact hc
  rw [if_neg c4] at hf ⊢
  by_cases c5 : r.kind = 5
  · rw [if_pos c5]; exact hc
  rw [if_neg c5] at hf ⊢
  have nb : ∀ {s : Int × Int}, T.beg s = true → T.closed s = true → False := fun hb hq => by
    have := (T8.beg_none hb).2.2.1; rw [hq] at this; cases this
  have nu : ∀ {s : Int × Int}, T.und s = true → T.closed s = true → ∃ i, T.fi s = some i ∧ T.at s = i ∧ i.gone = false ∧ i.shut = true := fun hb hq => by
    obtain ⟨i, hi, d1, d2, e⟩ := T8.und_some hb
    unfold T8.closed at hq
    rw [hi] at hq
    refine ⟨i, hi, e, d2, ?_⟩
    simpa [d2] using hq
  have no : ∀ {s : Int × Int}, T.und s = true → T.closed s = true → False := fun hb hq => by
    obtain ⟨i, hi, e, g1, g2⟩ := nu hb hq
    obtain ⟨i', hi', d1, d2, e'⟩ := T8.und_some hb
    rw [hi] at hi'
    cases hi'
    have := (h.fi hi).1.sh g2
    rw [d1] at this; cases this
  by_cases c6 : r.kind = 6
  · rw [if_pos c6] at hf ⊢
    have hk : (T.at (sR r)).s = sR r := by
      rw [Bool.or_eq_true] at hf
      rcases hf with hf | hf
      · rw [(T8.beg_none hf).2.2.2]; rfl
      · simp only [Bool.and_eq_true] at hf
        obtain ⟨i, hi, -, -, e⟩ := T8.und_some hf.1
        rw [e]; exact (h.fi hi).2
    refine closed_putI h (fun e hq => ?_) hc
    have e' : sR r = s := hk.symm.trans e
    subst e'
    rw [Bool.or_eq_true] at hf
    rcases hf with hf | hf
    · exact (nb hf hq).elim
    · simp only [Bool.and_eq_true] at hf; exact (no hf.1 hq).elim
  rw [if_neg c6] at hf ⊢
  by_cases c7 : r.kind = 7
  · rw [if_pos c7] at hf ⊢
    simp only [Bool.and_eq_true] at hf
    obtain ⟨i, hi, -, -, e⟩ := T8.und_some hf.1
    refine closed_putI h (fun e2 hq => ?_) hc
    have e' : sR r = s := by
      have q := (h.fi hi).2
      rw [e] at e2
      exact q.symm.trans e2
    subst e'
    exact (no hf.1 hq).elim
  rw [if_neg c7] at hf ⊢
  by_cases c8 : r.kind = 8
  · rw [if_pos c8] at hf ⊢
    exact closed_putI h (fun _ _ => .inl rfl) hc
  rw [if_neg c8] at hf ⊢
  by_cases c9 : r.kind = 9
  · rw [if_pos c9] at hf ⊢
    split at hf
    · rename_i i hi
      have q := h.fi hi
      have e : T.at (sR r) = i := by unfold T8.at; rw [hi]
      rw [e]
      refine closed_settle (i := { i with heard := true, data := [] }) h z q.1.num (fun e2 hq => ?_) hc
      have e' : sR r = s := q.2.symm.trans e2
      subst e'
      unfold T8.closed at hq
      rw [hi] at hq
      simpa using hq
    · cases hf
  rw [if_neg c9] at hf ⊢
  by_cases c10 : r.kind = 10
  · rw [if_pos c10] at hf ⊢
    split at hf
    · rename_i i hi
      have q := h.fi hi
      have e : T.at (sR r) = i := by unfold T8.at; rw [hi]
      rw [e]
      exact closed_settle (i := { i with shut := true }) h z q.1.num (fun e2 hq => .inr rfl) hc
    · cases hf
  rw [if_neg c10] at hf ⊢
  by_cases c11 : r.kind = 11
  · rw [if_pos c11] at hf ⊢
    exact closed_bury h (hm.k11 c11).2.2.2.2 hc
  rw [if_neg c11] at hf ⊢
  refine closed_putI h (fun e hq => ?_) hc
  have e' : sR r = s := e
  subst e'
  exact (nb hf hq).elim
end Go.Proofs.YtillgoegiplmkaaGreatDoor.B

namespace Go.Proofs.YtillgoegiplmkaaGreatDoor.B
open C
set_option linter.unusedVariables false
set_option linter.unusedSimpArgs false

/-! ## No session ends twice -/
/-- It has been delivered or cancelled. -/
def T8.fin (T : T8) (s : Int × Int) : Bool := match T.fi s with | some i => i.done || i.gone | none => has (T.ft s.1) s.2
theorem fin_putI {T : T8} (h : T.Ok) {i : Ic} {s : Int × Int} (hs : i.s = s → T.fin s = true → i.done = true ∨ i.gone = true) (hc : T.fin s = true) : (T.putI i).fin s = true := by
  unfold T8.fin
  rw [fi_putI h]
  by_cases e : i.s = s
  · rw [if_pos e]
    have := hs e hc
    simpa using this
  · rw [if_neg e]
    exact hc
theorem fin_bury {T : T8} (h : T.Ok) {o : Int} {l : List Sp} (hl : Rt 1 l) {s : Int × Int} (hc : T.fin s = true) : (T.bury o l).fin s = true := by
  unfold T8.fin at hc ⊢
  show (match T.fi s with | some i => i.done || i.gone | none => has ((T.bury o l).ft s.1) s.2) = true
  cases e : T.fi s with
  | some i => rw [e] at hc; exact hc
  | none => rw [e] at hc; exact ft_more h hl hc
theorem fin_settle {T : T8} (h : T.Ok) (h0 : T.id ≠ 0) {i : Ic} (hn : 1 ≤ i.num ∧ i.num < mxN) {s : Int × Int} (hs : i.s = s → T.fin s = true → i.done = true ∨ i.gone = true) (hc : T.fin s = true) : (T.settle i).fin s = true := by
  unfold T8.settle
  split
  · have hl : Rt 1 [(i.num, i.num + 1)] := ⟨hn.1, by simp only; omega, by simp only [mxN] at hn ⊢; omega, trivial⟩
    have h' := ok_rmI (s := i.s) h h0
    unfold T8.fin
    show (match fnd Ic.s s (rm Ic.s i.s T.im) with | some i => i.done || i.gone | none => has ((({ T with im := rm Ic.s i.s T.im } : T8).bury i.org [(i.num, i.num + 1)]).ft s.1) s.2) = true
    rw [fnd_rm]
    by_cases e : i.s = s
    · rw [if_pos e]
      subst e
      show has ((({ T with im := rm Ic.s i.s T.im } : T8).bury i.org [(i.num, i.num + 1)]).ft i.org) i.num = true
      rw [ft_bury h', if_pos rfl]
      refine nar_has (rt1_uns (h'.ft i.org).1 hl) ?_
      rw [(uns_all ((h'.ft i.org).1.mono (by omega)) hl (by omega)).all]
      rw [has_one, show inn (i.num, i.num + 1) i.num = true from inn_iff.mpr ⟨by simp only; omega, by simp only; omega⟩, Bool.or_true]
    · rw [if_neg e]
      unfold T8.fin T8.fi at hc
      cases q : fnd Ic.s s T.im with
      | some j => rw [q] at hc; exact hc
      | none =>
        rw [q] at hc
        exact ft_more h' hl hc
  · exact fin_putI h hs hc
theorem beg_fin {T : T8} {s : Int × Int} (h : T.beg s = true) : T.fin s = false := by
  obtain ⟨b1, b2, b3, b4⟩ := T8.beg_none h
  unfold T8.closed at b3
  unfold T8.fin
  rw [b1] at b3 ⊢
  exact b3
theorem und_fin {T : T8} {s : Int × Int} (h : T.und s = true) : T.fin s = false := by
  obtain ⟨i, hi, d1, d2, e⟩ := T8.und_some h
  unfold T8.fin
  rw [hi]
  simp [d1, d2]

set_option maxHeartbeats 1000000 in
/-- What has ended has ended, whatever follows. -/
theorem fin_then {T : T8} {r : Rc} (h : T.Ok) (hm : MayR r) (hf : T.folw r = true) {s : Int × Int} (hc : T.fin s = true) : (T.then' r).fin s = true := by
  unfold T8.folw at hf
  unfold T8.then'
  by_cases c1 : r.kind = 1
  · rw [if_pos c1]; exact hc
  rw [if_neg c1] at hf ⊢
  by_cases z : T.id = 0
  · rw [if_pos z] at hf; cases hf
  rw [if_neg z] at hf
  by_cases c2 : r.kind = 2
  · rw [if_pos c2]; exact hc
  rw [if_neg c2] at hf ⊢
  by_cases c3 : r.kind = 3
  · rw [if_pos c3]; exact hc
  rw [if_neg c3] at hf ⊢
  by_cases c4 : r.kind = 4
  · rw [if_pos c4]; split <;> exact hc
  rw [if_neg c4] at hf ⊢
  by_cases c5 : r.kind = 5
  · rw [if_pos c5]; exact hc
  rw [if_neg c5] at hf ⊢
  have nb : ∀ {s : Int × Int}, T.beg s = true → T.fin s = true → False := fun hb hq => by
    rw [beg_fin hb] at hq; cases hq
  have no : ∀ {s : Int × Int}, T.und s = true → T.fin s = true → False := fun hb hq => by
    rw [und_fin hb] at hq; cases hq
  by_cases c6 : r.kind = 6
  · rw [if_pos c6] at hf ⊢
    have hk : (T.at (sR r)).s = sR r := by
      rw [Bool.or_eq_true] at hf
      rcases hf with hf | hf
      · rw [(T8.beg_none hf).2.2.2]; rfl
      · simp only [Bool.and_eq_true] at hf
        obtain ⟨i, hi, -, -, e⟩ := T8.und_some hf.1
        rw [e]; exact (h.fi hi).2
    refine fin_putI h (fun e hq => ?_) hc
    have e' : sR r = s := hk.symm.trans e
    subst e'
    rw [Bool.or_eq_true] at hf
    rcases hf with hf | hf
    · exact (nb hf hq).elim
    · simp only [Bool.and_eq_true] at hf; exact (no hf.1 hq).elim
  rw [if_neg c6] at hf ⊢
  by_cases c7 : r.kind = 7
  · rw [if_pos c7]
    exact fin_putI h (fun _ _ => .inl rfl) hc
  rw [if_neg c7] at hf ⊢
  by_cases c8 : r.kind = 8
  · rw [if_pos c8]
    exact fin_putI h (fun _ _ => .inr rfl) hc
  rw [if_neg c8] at hf ⊢
  by_cases c9 : r.kind = 9
  · rw [if_pos c9] at hf ⊢
    split at hf
    · rename_i i hi
      have q := h.fi hi
      have e : T.at (sR r) = i := by unfold T8.at; rw [hi]
      rw [e]
      simp only [Bool.and_eq_true, Bool.or_eq_true] at hf
      exact fin_settle (i := { i with heard := true, data := [] }) h z q.1.num (fun e2 hq => hf.1) hc
    · cases hf
  rw [if_neg c9] at hf ⊢
  by_cases c10 : r.kind = 10
  · rw [if_pos c10] at hf ⊢
    split at hf
    · rename_i i hi
      have q := h.fi hi
      have e : T.at (sR r) = i := by unfold T8.at; rw [hi]
      rw [e]
      simp only [Bool.and_eq_true] at hf
      exact fin_settle (i := { i with shut := true }) h z q.1.num (fun e2 hq => .inl hf.1) hc
    · cases hf
  rw [if_neg c10] at hf ⊢
  by_cases c11 : r.kind = 11
  · rw [if_pos c11] at hf ⊢
    exact fin_bury h (hm.k11 c11).2.2.2.2 hc
  rw [if_neg c11] at hf ⊢
  exact fin_putI h (fun e hq => .inl rfl) hc
/-- A Done, a Past, a Gone comes of no session that has ended. -/
theorem fin_no {T : T8} {r : Rc} (hf : T.folw r = true) (hk : r.kind = 7 ∨ r.kind = 8 ∨ r.kind = 12) : T.fin (sR r) = false := by
  unfold T8.folw at hf
  rw [if_neg (by omega)] at hf
  by_cases z : T.id = 0
  · rw [if_pos z] at hf; cases hf
  rw [if_neg z, if_neg (by omega), if_neg (by omega), if_neg (by omega), if_neg (by omega), if_neg (by omega)] at hf
  rcases hk with k | k | k
  · rw [if_pos k] at hf
    simp only [Bool.and_eq_true] at hf
    exact und_fin hf.1
  · rw [if_neg (by omega), if_pos k, Bool.or_eq_true] at hf
    rcases hf with hf | hf
    · exact beg_fin hf
    · exact und_fin hf
  · rw [if_neg (by omega), if_neg (by omega), if_neg (by omega), if_neg (by omega), if_neg (by omega)] at hf
    exact beg_fin hf
end Go.Proofs.YtillgoegiplmkaaGreatDoor.B

namespace Go.Proofs.YtillgoegiplmkaaGreatDoor.B
open C
set_option linter.unusedVariables false
set_option linter.unusedSimpArgs false

/-- A Done, a Past, a Gone ends a session. -/
theorem fin_new {T : T8} {r : Rc} (h : T.Ok) (hf : T.folw r = true) (hk : r.kind = 7 ∨ r.kind = 8 ∨ r.kind = 12) : (T.then' r).fin (sR r) = true := by
  have key : ∀ i : Ic, i.s = sR r → (i.done = true ∨ i.gone = true) → (T.putI i).fin (sR r) = true := fun i e g => by
    unfold T8.fin
    rw [fi_putI h, if_pos e]
    simpa using g
  have hu : r.kind = 7 → (T.at (sR r)).s = sR r := fun k => by
    unfold T8.folw at hf
    rw [if_neg (by omega)] at hf
    by_cases z : T.id = 0
    · rw [if_pos z] at hf; cases hf
    rw [if_neg z, if_neg (by omega), if_neg (by omega), if_neg (by omega), if_neg (by omega), if_neg (by omega), if_pos k] at hf
    simp only [Bool.and_eq_true] at hf
    obtain ⟨i, hi, -, -, e⟩ := T8.und_some hf.1
    rw [e]; exact (h.fi hi).2
  unfold T8.then'
  rw [if_neg (by omega), if_neg (by omega), if_neg (by omega), if_neg (by omega), if_neg (by omega), if_neg (by omega)]
  rcases hk with k | k | k
  · rw [if_pos k]
    exact key _ (hu k) (.inl rfl)
  · rw [if_neg (by omega), if_pos k]
    exact key _ rfl (.inr rfl)
  · rw [if_neg (by omega), if_neg (by omega), if_neg (by omega), if_neg (by omega), if_neg (by omega)]
    exact key _ rfl (.inl rfl)

theorem settle_num (T : T8) (i : Ic) : (T.settle i).next = T.next ∧ (T.settle i).boots = T.boots ∧ (T.settle i).id = T.id := by
  unfold T8.settle
  split <;> exact ⟨rfl, rfl, rfl⟩
/-- Next never falls; boots grow one by one. -/
theorem num_then {T : T8} {r : Rc} (hf : T.folw r = true) : T.next ≤ (T.then' r).next ∧ ((T.then' r).boots = T.boots ∨ T.boots = 0 ∨ (T.then' r).boots = T.boots + 1) := by
  unfold T8.folw at hf
  unfold T8.then'
  by_cases c1 : r.kind = 1
  · rw [if_pos c1] at hf ⊢
    simp only [Bool.and_eq_true, Bool.or_eq_true, beq_iff_eq] at hf
    refine ⟨Int.le_refl _, .inr ?_⟩
    rcases hf.2 with q | q
    · exact .inl q
    · exact .inr q.symm
  rw [if_neg c1] at hf ⊢
  by_cases z : T.id = 0
  · rw [if_pos z] at hf; cases hf
  rw [if_neg z] at hf
  by_cases c2 : r.kind = 2
  · rw [if_pos c2] at hf ⊢
    simp only [decide_eq_true_eq] at hf
    exact ⟨hf, .inl rfl⟩
  rw [if_neg c2] at hf ⊢
  by_cases c3 : r.kind = 3
  · rw [if_pos c3] at hf ⊢
    simp only [Bool.and_eq_true, beq_iff_eq, decide_eq_true_eq] at hf
    exact ⟨by have := hf.2.1; show T.next ≤ r.num + 1; omega, .inl rfl⟩
  rw [if_neg c3]
  clear hf
  split
  · split <;> exact ⟨Int.le_refl _, .inl rfl⟩
  split
  · exact ⟨Int.le_refl _, .inl rfl⟩
  split
  · exact ⟨Int.le_refl _, .inl rfl⟩
  split
  · exact ⟨Int.le_refl _, .inl rfl⟩
  split
  · exact ⟨Int.le_refl _, .inl rfl⟩
  split
  · rw [(settle_num _ _).1, (settle_num _ _).2.1]; exact ⟨Int.le_refl _, .inl rfl⟩
  split
  · rw [(settle_num _ _).1, (settle_num _ _).2.1]; exact ⟨Int.le_refl _, .inl rfl⟩
  split
  · exact ⟨Int.le_refl _, .inl rfl⟩
  · exact ⟨Int.le_refl _, .inl rfl⟩
end Go.Proofs.YtillgoegiplmkaaGreatDoor.B
