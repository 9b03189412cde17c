import Derived.Test.YtpdafcchldenpaaDoorRpU
import Derived.Test.YtpdafcchldenpaaDoorRpUn
namespace Go.Proofs.YtpdafcchldenpaaDoor
open Go.RowKit
set_option linter.unusedVariables false
set_option linter.unusedSimpArgs false

theorem dl_flat {k : Qu} : ∀ (f : Nat) {lo sr : Int} {l : List (Int × Int)} {rs : List Rr}, dl5 k f lo sr l = some rs → rs.flatMap Rr.clm = l
  | 0, lo, sr, l, rs, h => by cases h
  | f + 1, lo, sr, l, rs, h => by
    rw [dl5] at h
    split at h
    · rename_i e; subst e; cases h; rfl
    · split at h
      · cases h
      · obtain ⟨rs', h1, rfl⟩ := Option.map_eq_some_iff.mp h
        have ih := dl_flat f h1
        rw [List.flatMap_cons, ih]
        show l.take _ ++ l.drop _ = l
        exact List.take_append_drop _ _
/-- What Make answers where it answers reports. -/
theorem mk_ok {o n mtu lo up ck sr : Int} {l : List (Int × Int)} (h : (mk5 o n mtu l lo up ck sr).1 = 0) : C.IsSet l ∧ (0 ≤ lo ∧ lo < up ∧ up ≤ 65536) ∧ (mk5 o n mtu l lo up ck sr).2.flatMap Rr.clm = C.wth l (lo, up) := by
  unfold mk5 at h ⊢
  split at h
  · cases h
  · rename_i h1
    rw [if_neg h1]
    split at h
    · cases h
    · rename_i h2
      rw [if_neg h2]
      split at h
      · cases h
      · rename_i h3
        rw [if_neg h3]
        split at h
        · cases h
        · rename_i h4
          rw [if_neg h4]
          refine ⟨C.setB_iff.mp (by simpa using h2), by simpa [inU] using h3, ?_⟩
          show (dlL _).flatMap Rr.clm = _
          cases hd : dl5 ⟨o, n, mtu, ck, up⟩ ((C.wth l (lo, up)).length + 1) lo sr (C.wth l (lo, up)) with
          | none => rw [hd] at h; cases h
          | some rs => exact dl_flat _ hd
/-- What is known behind some reports. -/
structure Kn (knew : List (Int × Int)) (rs : List Rr) (i : Nat) (K : List (Int × Int)) : Prop where
  all : ∀ x, C.has K x = (C.has knew x || C.has ((rs.take i).flatMap Rr.clm) x)
  set : 0 < i → C.IsSet K
  fst : i = 0 → K = knew
theorem Kn.start (knew : List (Int × Int)) (rs : List Rr) : Kn knew rs 0 knew := ⟨fun x => by simp [C.has], fun h => by omega, fun _ => rfl⟩
theorem Kn.step {knew : List (Int × Int)} {rs : List Rr} {i : Nat} {K u : List (Int × Int)} {r : Rr} (h : Kn knew rs i K) (hr : rs[i]? = some r) (hu : C.UR K r.clm u 0) : Kn knew rs (i + 1) u := by
  rcases hu with ⟨_, q, _⟩ | ⟨_, _, U, hU, ⟨q, _, rfl⟩ | ⟨_, q, _⟩⟩
  · cases q
  · refine ⟨fun x => ?_, fun _ => ⟨q, hU.rt⟩, fun e => by omega⟩
    rw [hU.all, h.all, List.take_add_one, hr, List.flatMap_append, C.has_append, Bool.or_assoc]
    simp
  · cases q
/-- The claims of a report in memory. -/
theorem R5.claims {w wr : World} {base N c : Nat} {a : Option Addr} {os : List R5o} {j : Nat} (h : R5 w base (.slice a N c) os) (hb : Below w.heap.size w wr) (hj : j < N) : ∃ g o, a = some ⟨g, 0, none⟩ ∧ os[j]? = some o ∧ wr.cell? ⟨g, j * 5 + 4, none⟩ = some (.slice o.a o.r.clm.length o.c) ∧ C.SOwn wr base (.slice o.a o.r.clm.length o.c) o.r.clm := by
  have h2 := h.below hb
  obtain ⟨a', c', hv⟩ := own_sl5 h2.row
  simp only [Value.slice.injEq] at hv
  obtain ⟨_, hN, _⟩ := hv
  obtain ⟨o, ho⟩ := get_one os j (by omega)
  obtain ⟨g, cap, hv2⟩ := C.own_some h2.row (by omega)
  simp only [Value.slice.injEq] at hv2
  obtain ⟨rfl, rfl, rfl⟩ := hv2
  exact ⟨g, o, rfl, ho, (h2.row.cellAt _ (by omega)).trans (rpC_at ho 4 _ rfl), h2.own j o ho⟩
theorem gps_same {A B : List (Int × Int)} {lo up : Int} (hA : C.IsSet A) (hB : C.IsSet B) (ha : 0 ≤ lo ∧ lo < up ∧ up ≤ 65536) (h : ∀ x, lo ≤ x → x < up → C.has A x = C.has B x) : C.pick false (C.pc up lo A) = C.pick false (C.pc up lo B) := by
  have q : C.Asked (lo, up) := ⟨ha.1, by show lo ≤ up; omega, by show up ≤ _; omega⟩
  refine C.Rt.uniq (C.gps_rt hA.2 q) (C.gps_rt hB.2 q) (fun x => ?_)
  show C.has (C.gps A (lo, up)) x = C.has (C.gps B (lo, up)) x
  rw [C.gps_has hA.2, C.gps_has hB.2]
  by_cases e : lo ≤ x ∧ x < up
  · rw [h x e.1 e.2]
  · have : C.inn (lo, up) x = false := by
      cases hi : C.inn (lo, up) x with
      | false => rfl
      | true => exact absurd (C.inn_iff.mp hi) e
    rw [this]; rfl
/-- The end: who heard all reports misses what is missing on both sides. -/
theorem Kn.fin {knew have5 : List (Int × Int)} {rs : List Rr} {K B x y : List (Int × Int)} {lo up e h k : Int} (hk : Kn knew rs rs.length K) (hf : rs.flatMap Rr.clm = C.wth have5 (lo, up)) (hs : C.IsSet have5) (hu : 0 ≤ lo ∧ lo < up ∧ up ≤ 65536) (hb : C.UR have5 knew B 0) (hx : C.MR K lo up x h) (hy : C.MR B lo up y k) : x = y ∧ h = 0 ∧ k = 0 := by
  rcases hb with ⟨_, q, _⟩ | ⟨_, hkn, U, hU, ⟨q, _, rfl⟩ | ⟨_, q, _⟩⟩
  · cases q
  · have hK : C.IsSet K := by
      rcases Nat.eq_zero_or_pos rs.length with e0 | e0
      · rw [hk.fst e0]; exact hkn
      · exact hk.set e0
    have hB : C.IsSet B := ⟨q, hU.rt⟩
    have hin : C.inB lo up := by unfold C.inB; omega
    have hg := gps_same hK hB hu (fun z z1 z2 => by
      rw [hk.all, hU.all, List.take_length, hf, C.wth_has hs.2, C.inn_iff.mpr (⟨z1, z2⟩ : lo ≤ z ∧ z < up), Bool.true_and, Bool.or_comm])
    rcases hx with ⟨a, _⟩ | ⟨_, a, _⟩ | ⟨_, _, a, b⟩
    · exact absurd hK a
    · exact absurd hin a
    · rcases hy with ⟨c, _⟩ | ⟨_, c, _⟩ | ⟨_, _, c, d⟩
      · exact absurd hB c
      · exact absurd hin c
      · exact ⟨by rw [b, d, hg], a, c⟩
  · cases q

set_option maxRecDepth 100000 in
set_option maxHeartbeats 16000000 in
theorem tells_walk (o n mtu lo up ck sr : Int) (a0 a1 : Option Addr) (n0 n1 c0 c1 : Nat) (l m : List (Int × Int)) (W : World) (hT : Tab W) (h1 : C.Ls W (.slice a0 n0 c0) l) (h2 : C.Ls W (.slice a1 n1 c1) m) :
    Calls Tryd.prog 3 #[.agg #[.int .i64 o, .int .i64 n, .int .i64 mtu, .int .i64 lo, .int .i64 up, .int .i64 ck, .int .i64 sr], .slice a0 n0 c0, .slice a1 n1 c1] W fun e W' => e = .returned (.bool true) ∧ Below W.heap.size W W' := by
  have h00 : 0 < W.heap.size := World.block_lt_of_cell? W ⟨0, 0, none⟩ (hT 0 (by omega))
  obtain ⟨W0, hW0⟩ : ∃ x, W.alloc (.cells #[.int .i64 o, .int .i64 n, .int .i64 mtu, .int .i64 lo, .int .i64 up, .int .i64 ck, .int .i64 sr] 25) = x := ⟨_, rfl⟩
  have HW0 : Hid (_ = W0) := hW0
  have hb0 : Below W.heap.size W W0 := by rw [← hW0]; exact (Below.refl _ _).alloc (Nat.le_refl _) _
  have HB0 : Hid (Below W.heap.size W W0) := hb0
  have HR0 : Hid (W0.heap[W.heap.size]? = some (.cells #[.int .i64 o, .int .i64 n, .int .i64 mtu, .int .i64 lo, .int .i64 up, .int .i64 ck, .int .i64 sr] 25 (0, 0))) := by show _ = _; rw [← hW0]; exact al_new _ _
  have HL : Hid (C.Ls W (.slice a0 n0 c0) l) := h1
  have HM : Hid (C.Ls W (.slice a1 n1 c1) m) := h2
  have HT : Hid (Tab W) := hT
  have hA := awake5_any W0 (hT.below hb0 h00)
  clear h1 h2 hT hW0 hb0
  go_enter Tryd.func3, Tryd.ntmps3
  go_wp2_with fail
  rw [HW0.out]
  refine hA.mono ?_
  rintro e w1 ⟨rfl, hb1⟩
  have HB1 : Hid (Below W.heap.size W w1) := HB0.out.trans (hb1.mono HB0.out.size)
  have hr1 := (hb1.block W.heap.size (Array.getElem?_eq_some_iff.1 HR0.out).1).trans HR0.out
  have HR1 : Hid (w1.heap[W.heap.size]? = some (.cells #[.int .i64 o, .int .i64 n, .int .i64 mtu, .int .i64 lo, .int .i64 up, .int .i64 ck, .int .i64 sr] 25 (0, 0))) := hr1
  have y0 : w1.cell? ⟨W.heap.size, 0, none⟩ = some (.int .i64 o) := (cell_of_row _ _ _ _ _ _ hr1).trans rfl
  have y1 : w1.cell? ⟨W.heap.size, 1, none⟩ = some (.int .i64 n) := (cell_of_row _ _ _ _ _ _ hr1).trans rfl
  have y2 : w1.cell? ⟨W.heap.size, 2, none⟩ = some (.int .i64 mtu) := (cell_of_row _ _ _ _ _ _ hr1).trans rfl
  have y3 : w1.cell? ⟨W.heap.size, 3, none⟩ = some (.int .i64 lo) := (cell_of_row _ _ _ _ _ _ hr1).trans rfl
  have y4 : w1.cell? ⟨W.heap.size, 4, none⟩ = some (.int .i64 up) := (cell_of_row _ _ _ _ _ _ hr1).trans rfl
  have y5 : w1.cell? ⟨W.heap.size, 5, none⟩ = some (.int .i64 ck) := (cell_of_row _ _ _ _ _ _ hr1).trans rfl
  have y6 : w1.cell? ⟨W.heap.size, 6, none⟩ = some (.int .i64 sr) := (cell_of_row _ _ _ _ _ _ hr1).trans rfl
  have hMk := make5_any o n mtu _ _ lo up ck sr w1 (HL.out.below HB1.out) (HT.out.below HB1.out h00)
  clear hA hb1 hr1 HR0 HW0 HB0
  go_wp2_with fail
  refine hMk.mono ?_
  rintro e w2 ⟨a2, c2, os, rfl, hos, hr5, hfew, hlen, hb2⟩
  have HB2 : Hid (Below W.heap.size W w2) := HB1.out.trans (hb2.mono HB1.out.size)
  have hr2 := (hb2.block W.heap.size (Array.getElem?_eq_some_iff.1 HR1.out).1).trans HR1.out
  obtain ⟨er, her⟩ : ∃ er, (mk5 o n mtu l lo up ck sr).1 = er := ⟨_, rfl⟩
  obtain ⟨rs, hrs⟩ : ∃ rs, (mk5 o n mtu l lo up ck sr).2 = rs := ⟨_, rfl⟩
  have HOK : Hid (er = 0 → C.IsSet l ∧ (0 ≤ lo ∧ lo < up ∧ up ≤ 65536) ∧ rs.flatMap Rr.clm = C.wth l (lo, up)) := fun h => by
    rw [← hrs]; exact mk_ok (her.trans h)
  rw [her, hrs]
  rw [hrs] at hos hr5 hfew hlen
  obtain ⟨N, hN⟩ : ∃ N, rs.length = N := ⟨_, rfl⟩
  rw [hN] at hr5 hlen ⊢
  have HN : Hid (rs.length = N) := hN
  have HR5 : Hid (R5 w2 w1.heap.size (.slice a2 N c2) os) := hr5
  have HOS : Hid (rs = os.map R5o.r) := hos
  have HFE : Hid (∀ r ∈ rs, r.clm.length ≤ 1000) := hfew
  have x3 : w2.cell? ⟨W.heap.size, 3, none⟩ = some (.int .i64 lo) := (cell_of_row _ _ _ _ _ _ hr2).trans rfl
  have x4 : w2.cell? ⟨W.heap.size, 4, none⟩ = some (.int .i64 up) := (cell_of_row _ _ _ _ _ _ hr2).trans rfl
  have HR2 : Hid (w2.heap[W.heap.size]? = some (.cells #[.int .i64 o, .int .i64 n, .int .i64 mtu, .int .i64 lo, .int .i64 up, .int .i64 ck, .int .i64 sr] 25 (0, 0))) := hr2
  clear hMk hos hr5 hfew hb2 hr2 hN y0 y1 y2 y3 y4 y5 y6 HR1 her hrs
  by_cases he : er = 0
  · have HK := HOK.out he
    have HQ : Hid (C.IsSet l ∧ (0 ≤ lo ∧ lo < up ∧ up ≤ 65536) ∧ rs.flatMap Rr.clm = C.wth l (lo, up)) := HK
    subst he
    clear HOK HK
    go_wp2_with fail
    go_loopw [10, 11] (fun kv i wr => ∃ (j : Nat) (K : List (Int × Int)), j ≤ N ∧ i = .int .i64 j ∧ Hid (Kn m rs j K ∧ C.Ls wr kv K) ∧ Below w2.heap.size w2 wr) (fun _ i _ => N - (intOf i).toNat)
    case atStart => exact ⟨0, m, Nat.zero_le _, rfl, hid_and (Kn.start m rs) (HM.out.below HB2.out), Below.refl _ _⟩
    case round =>
      obtain ⟨j, K, hj, rfl, HKn, hbw⟩ := hrel
      have HBw : Hid (Below w2.heap.size w2 wr) := hbw
      have HBW : Hid (Below W.heap.size W wr) := HB2.out.trans (hbw.mono HB2.out.size)
      by_cases hlt : j < N
      · have hlt' : (j : Int) < (N : Int) := by omega
        obtain ⟨g, q, rfl, hq, hcl, hso⟩ := HR5.out.claims hbw hlt
        have hrj : rs[j]? = some q.r := by rw [HOS.out, List.getElem?_map, hq]; rfl
        have hU := C.refunion5_any HKn.out.2 (hso.ls (by have := HFE.out q.r (List.mem_of_getElem? hrj); omega))
        have HRJ : Hid (rs[j]? = some q.r) := hrj
        obtain ⟨kv, kc, hkv⟩ : ∃ a c, u10 = .slice a K.length c := by obtain ⟨a, c, hv, _⟩ := HKn.out.2.shape; exact ⟨a, c, hv⟩
        subst hkv
        obtain ⟨M, hM⟩ : ∃ M, q.r.clm.length = M := ⟨_, rfl⟩
        rw [hM] at hcl hU
        clear hq hso hrj hM hbw
        go_wp2_with fail
        refine hU.mono ?_
        rintro e w3 ⟨v3, u3, e3, rfl, hs3, hu3, hb3⟩
        obtain ⟨a3, c3, hv3⟩ := hs3.shape
        subst hv3
        have HB3 : Hid (Below w2.heap.size w2 w3) := HBw.out.trans (hb3.mono HBw.out.size)
        by_cases he3 : e3 = 0
        · subst he3
          have HK3 : Hid (Kn m rs (j + 1) u3 ∧ C.Ls w3 (.slice a3 u3.length c3) u3) := hid_and (HKn.out.1.step HRJ.out hu3) (hs3.ls (by
            rcases hu3 with ⟨_, q, _⟩ | ⟨_, _, U, _, ⟨q, _, rfl⟩ | ⟨_, q, _⟩⟩
            · cases q
            · omega
            · cases q))
          clear hU hs3 hu3 hb3 HKn HRJ hcl
          obtain ⟨M3, hM3⟩ : ∃ M, u3.length = M := ⟨_, rfl⟩
          rw [hM3] at HK3 ⊢
          clear hM3
          go_wp2
          go_roundw
          case rel => exact ⟨j + 1, u3, by omega, by go_num, HK3, HB3.out⟩
          case measure => simp [intOf]; omega
        · have he4 : (e3 == 0) = false := by simp [he3]
          clear hU hs3 hu3 hb3 HKn HRJ hcl
          have HF : Hid (Below W.heap.size W w3) := HB2.out.trans (HB3.out.mono HB2.out.size)
          go_wp2
          first | exact ⟨rfl, HF.out⟩ | (go_ret; exact ⟨rfl, HF.out⟩)
      · obtain rfl : j = N := by omega
        have hlt' : ¬ (j : Int) < (j : Int) := by omega
        have hU := C.refunion5_any (HL.out.below HBW.out) (HM.out.below HBW.out)
        obtain ⟨kv, kc, hkv⟩ : ∃ a c, u10 = .slice a K.length c := by obtain ⟨a, c, hv, _⟩ := HKn.out.2.shape; exact ⟨a, c, hv⟩
        subst hkv
        have HRw : Hid (∀ V, Below w2.heap.size w2 V → V.cell? ⟨W.heap.size, 3, none⟩ = some (.int .i64 lo) ∧ V.cell? ⟨W.heap.size, 4, none⟩ = some (.int .i64 up)) := fun V hV => by
          have h1 := (hV.block W.heap.size (Array.getElem?_eq_some_iff.1 HR2.out).1).trans HR2.out
          exact ⟨(cell_of_row _ _ _ _ _ _ h1).trans rfl, (cell_of_row _ _ _ _ _ _ h1).trans rfl⟩
        clear hbw x3 x4
        go_wp2_with fail
        refine hU.mono ?_
        rintro e w3 ⟨v3, u3, e3, rfl, hs3, hu3, hb3⟩
        obtain ⟨a3, c3, hv3⟩ := hs3.shape
        subst hv3
        have HB3 : Hid (Below w2.heap.size w2 w3) := HBw.out.trans (hb3.mono HBw.out.size)
        by_cases he3 : e3 = 0
        · subst he3
          have hul : u3.length ≤ 2000 := by
            rcases hu3 with ⟨_, q, _⟩ | ⟨_, _, U, _, ⟨q, _, rfl⟩ | ⟨_, q, _⟩⟩
            · cases q
            · exact q
            · cases q
          have HU3 : Hid (C.UR l m u3 0) := hu3
          have HS3 : Hid (C.Ls w3 (.slice a3 u3.length c3) u3) := hs3.ls (by omega)
          obtain ⟨x3, x4⟩ := HRw.out w3 HB3.out
          have hMa := C.missing_any lo up (HKn.out.2.below hb3)
          clear hU hs3 hu3 hb3 hul
          go_wp2_with fail
          refine hMa.mono ?_
          rintro e w4 ⟨v4, u4, e4, rfl, hs4, hm4, hb4⟩
          obtain ⟨a4, c4, hv4⟩ := hs4.shape
          subst hv4
          have HB4 : Hid (Below w2.heap.size w2 w4) := HB3.out.trans (hb4.mono HB3.out.size)
          have HM4 : Hid (C.MR K lo up u4 e4) := hm4
          have HC4 : Hid (CIn w4 (.slice a4 u4.length c4) u4) := cin_own hs4 (by have := hm4.len; omega)
          have hMb := C.missing_any lo up (HS3.out.below hb4)
          clear x3 x4
          obtain ⟨x3, x4⟩ := HRw.out w4 HB4.out
          clear hMa hs4 hm4 hb4
          go_wp2_with fail
          refine hMb.mono ?_
          rintro e w5 ⟨v5, u5, e5, rfl, hs5, hm5, hb5⟩
          obtain ⟨a5, c5, hv5⟩ := hs5.shape
          subst hv5
          obtain ⟨hx, h4, h5⟩ := (by rw [← HN.out] at HKn; exact HKn.out.1 : Kn m rs rs.length K).fin (e := 0) HQ.out.2.2 HQ.out.1 HQ.out.2.1 HU3.out HM4.out hm5
          subst hx h4 h5
          have HB5 : Hid (Below w2.heap.size w2 w5) := HB4.out.trans (hb5.mono HB4.out.size)
          have hSm := sameSpans_gen _ _ _ _ w5 (HC4.out.below hb5) (cin_own hs5 (by have := hm5.len; omega))
          clear hMb hs5 hm5 hb5 x3 x4
          go_wp2_with fail
          refine hSm.mono ?_
          rintro e w6 ⟨q, rfl, hq, hb6⟩
          obtain rfl : q = true := hq (by trivial)
          have HF : Hid (Below W.heap.size W w6) := by
            have h1 := HB2.out.trans (HB5.out.mono HB2.out.size)
            exact h1.trans (hb6.mono h1.size)
          clear hSm hq hb6
          go_wp2
          first | exact ⟨rfl, HF.out⟩ | (go_ret; exact ⟨rfl, HF.out⟩)
        · have he4 : (e3 == 0) = false := by simp [he3]
          clear hU hs3 hu3 hb3 HKn
          have HF : Hid (Below W.heap.size W w3) := HB2.out.trans (HB3.out.mono HB2.out.size)
          go_wp2
          first | exact ⟨rfl, HF.out⟩ | (go_ret; exact ⟨rfl, HF.out⟩)
  · have he2 : (er == 0) = false := by simp [he]
    go_wp2
    go_ret
    exact ⟨rfl, HB2.out⟩

end Go.Proofs.YtpdafcchldenpaaDoor
