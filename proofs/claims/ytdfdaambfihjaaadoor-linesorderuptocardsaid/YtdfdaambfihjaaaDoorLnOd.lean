import Derived.Test.YtdfdaambfihjaaaDoorLnOs
namespace Go.Proofs.YtdfdaambfihjaaaDoor.L
open Go.RowKit
set_option linter.unusedVariables false
set_option linter.unusedSimpArgs false

theorem prt_typ {s : Sg} {hx tx : List Xr} (h : (prt s hx tx).1 = 0) : 0 ≤ s.typ := by
  unfold prt at h
  split at h
  · cases h
  · next h2 =>
    by_cases e : 0 ≤ s.typ
    · exact e
    · exfalso
      have : shp s.typ = 0 := by unfold shp; simp; omega
      rw [this] at h2
      exact h2 (by decide)
theorem row_new0 (w : World) (l : List Value) (t : TypeId) : ∀ j u, l[j]? = some u → (w.alloc (.cells l.toArray t)).cell? ((⟨w.heap.size, 0, none⟩ : Addr).add j) = some u := fun j u h => by
  rw [addr_add, Nat.zero_add, cell_of_row _ _ _ l.toArray t (0, 0) (heap_alloc_new' w _)]
  simpa using h
theorem Od.put {w0 wr U : World} {pa ma pb mb : Nat} {oa ob o' : Lo} {M : Nat} {iv : Value} {I : List Sv} {A B : Nat → List Sg} {s : Sg} {y : Sv} {lo hi : Nat} (h : Od w0 wr pa ma pb mb oa ob M iv I A B) (hp : PtP wr U pa ma 1073741824 3 oa o' M s y lo hi) : Od w0 U pa ma pb mb o' ob (M + 1) iv I (fun k => A k ++ (if k = kdn s.typ then [s] else [])) B := by
  refine h.a (by omega) hp.lw hp.fo hp.kl (fun k hk => ?_) (fun k z hk hz => ?_)
  · rw [hp.wt k hk, List.map_append, h.qa k hk]
    split
    · simp [hp.ys]
    · simp
  · rw [hp.wt k hk] at hz
    rcases List.mem_append.mp hz with hz | hz
    · exact .inl ⟨k, hk, hz⟩
    · split at hz
      · simp at hz
        subst hz
        refine .inr (fun N hN => hp.sta (fun g hg e => ?_))
        rcases hN g hg with e2 | e2
        · exact hp.nf g e2 e
        · have := hp.l0; omega
      · cases hz

theorem Od.cnt {w0 wr : World} {pa ma pb mb : Nat} {oa ob : Lo} {M : Nat} {iv : Value} {I : List Sv} {A B : Nat → List Sg} (h : Od w0 wr pa ma pb mb oa ob M iv I A B) : cnt oa = (A 0).length + (A 1).length + (A 2).length := by
  unfold L.cnt
  rw [← h.qa 0 (by omega), ← h.qa 1 (by omega), ← h.qa 2 (by omega)]
  simp
theorem Od.cc {w0 wr : World} {pa ma pb mb : Nat} {oa ob : Lo} {M : Nat} {iv : Value} {I : List Sv} {A B : Nat → List Sg} (h : Od w0 wr pa ma pb mb oa ob M iv I A B) : (Cc oa).map Sv.s = A 0 ++ A 1 ++ A 2 := by
  rw [Cc_eq, List.map_append, List.map_append, h.qa 0 (by omega), h.qa 1 (by omega), h.qa 2 (by omega)]
theorem Cc_mem {o : Lo} {y : Sv} (h : y ∈ Cc o) : ∃ j, j < 3 ∧ y ∈ Wt o j := by
  rw [Cc_eq] at h
  rcases List.mem_append.mp h with h | h
  · rcases List.mem_append.mp h with h | h
    · exact ⟨0, by omega, h⟩
    · exact ⟨1, by omega, h⟩
  · exact ⟨2, by omega, h⟩
/-- A Drop on the first of the two. -/
theorem Od.drop {w0 wr U : World} {pa ma pb mb : Nat} {oa ob o' : Lo} {M : Nat} {iv : Value} {I : List Sv} {A B : Nat → List Sg} {S1 S2 : Int} {all : Bool} (h : Od w0 wr pa ma pb mb oa ob M iv I A B) (hp : DpP wr U pa ma 1073741824 3 oa o' M S1 S2 all) : Od w0 U pa ma pb mb o' ob M iv I (fun k => if 0 < k then dr1 S1 S2 all (A k) else A k) B := by
  refine h.a (Nat.le_refl _) hp.lw hp.fo hp.kl (fun k hk => ?_) (fun k z hk hz => ?_)
  · rcases three hk with rfl | rfl | rfl
    · rw [hp.w0, h.qa 0 (by omega)]; rfl
    · rw [hp.w1, kp_map, h.qa 1 (by omega)]; rfl
    · rw [hp.w2, kp_map, h.qa 2 (by omega)]; rfl
  · rcases three hk with rfl | rfl | rfl
    · rw [hp.w0] at hz; exact .inl ⟨0, by omega, hz⟩
    · rw [hp.w1] at hz; exact .inl ⟨1, by omega, (List.mem_filter.mp hz).1⟩
    · rw [hp.w2] at hz; exact .inl ⟨2, by omega, (List.mem_filter.mp hz).1⟩
theorem Od.dpn {w0 wr : World} {pa ma pb mb : Nat} {oa ob : Lo} {M : Nat} {iv : Value} {I : List Sv} {A B : Nat → List Sg} (h : Od w0 wr pa ma pb mb oa ob M iv I A B) (S1 S2 : Int) (all : Bool) : dpn oa S1 S2 all = ((A 1).length - (dr1 S1 S2 all (A 1)).length) + ((A 2).length - (dr1 S1 S2 all (A 2)).length) := by
  unfold L.dpn
  rw [← h.qa 1 (by omega), ← h.qa 2 (by omega), ← kp_map, ← kp_map]
  simp
/-- An append of a row of the call's own. -/
theorem wpl_row {P : Program} {ops : Array Oper} {rest : List Oper} {o : Oper} {a : Act} {Q : Exit → Act → World → Prop} (w : World) (hg : o.guard = none) (s x : Operand) (t : TypeId) (hop : o.op = Op.call { callee := Callee.builtin Builtin.append, args := #[s, x], argTypes := #[t, t] })
    (base : Nat) (e : TypeId) (i : TypeInfo) (z : Value) (size bytes : Nat) (ht : P.underlying t = some (.slice e)) (hi : P.info? e = some i) (hz : i.zero = some z) (hsize : i.size = size) (hby : i.bytes = bytes) (hzs : z.cells.size = size) (hsz : 0 < size)
    (v : Value) (n : Nat) (xs : List Value) (hs : a.eval s = v) (hown : w.ownsRow base e size v n xs) (v2 : Value) (m : Nat) (news : List Value) (hx : a.eval x = v2) (hown2 : w.ownsRow 0 e size v2 m news) (h1 : ∀ u ∈ news, u.oneCell' = true)
    (h63 : n + m ≤ maxLen) (hbytes : (n + m) * bytes ≤ 140737488355328) (hbase : base ≤ w.heap.size)
    (hK : ∀ v' w', w'.ownsRow base e size v' (n + m) (xs ++ news) → w.grownBy w' v.ownBlock → (v'.ownBlock = v.ownBlock ∨ v'.ownBlock = some w.heap.size) → wpList P ops Q rest (a.put o.dst v') w') : wpList P ops Q (o :: rest) a w := by
  have hlen : news.length = m * size := hown2.1
  obtain ⟨_, ⟨rfl, rfl⟩ | ⟨g, cap, cur, rfl, _⟩⟩ := id hown2
  · have hn0 : news = [] := List.eq_nil_of_length_eq_zero (by rw [hlen]; omega)
    subst hn0
    refine wpList_append_own_none hg s x t hop base e i size ht hi v n xs hs hown hx ?_
    exact hK v w (by simpa using hown) ⟨rfl, rfl, rfl, Nat.le_refl _, fun _ _ _ => rfl⟩ (.inl rfl)
  · refine wpList_append_own_at w hg s x t hop base e i z size bytes ht hi hz hsize hby hzs hsz v n xs hs hown ⟨g, 0, none⟩ m cap news hx hlen (hown2.cells (g := g) rfl) h1 h63 hbytes hbase ?_
    intro v' w' r2 r3 _ r5
    exact hK v' w' r2 r3 r5
theorem dr1_le (S1 S2 : Int) (all : Bool) (l : List Sg) : (dr1 S1 S2 all l).length ≤ l.length := List.length_filter_le _ _
theorem hfull (V : World) (p m : Nat) (o : Lo) (M : Nat) (h : Lw V p m 1073741824 3 o M) (hM : M ≤ 2097153) : ¬ (1073741824 : Int) ≤ ((Wt o 0).length : Nat) := by have := Wt_le h 0 (by omega); omega

set_option maxRecDepth 100000 in
set_option maxHeartbeats 32000000 in
theorem order_walk (w : World) (v0 : Value) (L : List Sv) (cut : Int) (dr all : Bool) (hL : Rw w v0 L) (aL : ∀ y ∈ L, SAt w y) (n : Nat) (hn : L.length = n) (hnb : n ≤ 1048576) (hT : Tab w) (hcut : cut ≤ 9223372036854775807) :
    Calls Tryd.prog 4 #[v0, .int .i64 cut, .bool dr, .bool all] w fun e w' => e = .returned (.bool true) ∧ Below w.heap.size w w' := by
  obtain ⟨i0, hi, hq0, hq1, hq2⟩ := info_parts seg_info
  have h00 : 0 < w.heap.size := World.block_lt_of_cell? w ⟨0, 0, none⟩ (hT 0 (by omega))
  have hAw := awake_any w hT
  obtain ⟨la, lc, rfl, hL'⟩ := hL
  rw [hn]
  have HA : Hid ((∀ y ∈ L, SAt w y) ∧ L.length = n ∧ (L = [] ∨ ∃ g off, la = some ⟨g, off, none⟩ ∧ Sd w g off L) ∧ (∀ V, Below w.heap.size w V → Tab V)) := ⟨aL, hn, hL', fun V hV => hT.below hV h00⟩
  clear aL hL' hT hn
  go_enter Tryd.func4, Tryd.ntmps4
  go_wp2_with fail
  refine hAw.mono ?_
  rintro e w1 ⟨rfl, b1⟩
  have H1 : Hid (Below w.heap.size w w1) := b1
  have hN1 := new_any 1073741824 3 w1
  clear hAw b1
  go_wp2_with fail
  refine hN1.mono ?_
  rintro e w2 ⟨rfl, l2, b2⟩
  obtain ⟨pa, hpa⟩ : ∃ pa, w1.heap.size + 1 = pa := ⟨_, rfl⟩
  obtain ⟨ma, hma⟩ : ∃ ma, w1.heap.size = ma := ⟨_, rfl⟩
  rw [hpa, hma] at l2
  rw [hpa]
  have H2 : Hid (Lw w2 pa ma 1073741824 3 none 0 ∧ Below w1.heap.size w1 w2 ∧ w1.heap.size + 1 = pa ∧ w1.heap.size = ma) := ⟨l2, b2, hpa, hma⟩
  have hN2 := new_any 1073741824 3 w2
  clear hN1 l2 b2 hpa hma
  go_wp2_with fail
  refine hN2.mono ?_
  rintro e w3 ⟨rfl, l3, b3⟩
  obtain ⟨pb, hpb⟩ : ∃ pb, w2.heap.size + 1 = pb := ⟨_, rfl⟩
  obtain ⟨mb, hmb⟩ : ∃ mb, w2.heap.size = mb := ⟨_, rfl⟩
  rw [hpb, hmb] at l3
  rw [hpb]
  have H3 : Hid (Od w w3 pa ma pb mb none none 0 (.slice none 0 0) [] (Kd []) (Kd [])) := by
    obtain ⟨l2, b2, e1, e2⟩ := H2.out
    have hp2 : pa < w2.heap.size := (Array.getElem?_eq_some_iff.1 l2.box).1
    have hs1 := H1.out.size
    refine ⟨l2.below b3, l3, H1.out.trans ((b2.mono hs1).trans (b3.mono (Nat.le_trans hs1 b2.size))), fun g hg => ?_, fun g h1 h2 => ?_, fun e => ?_, fun e => ?_, fun g hg => (by cases hg), World.ownsRow_nil _ _ _ _, fun k hk => rfl, fun k hk => rfl, fun k y hk hy => (by cases hy), fun k y hk hy => (by cases hy), fun y hy => (by cases hy)⟩
    · rcases hg with e | e | e
      · rcases e with e | e
        · omega
        · exact e.elim
      · rcases e with e | e
        · omega
        · exact e.elim
      · cases e
    · rcases h1 with e | e
      · rcases h2 with e' | e'
        · omega
        · exact e'
      · exact e
    · rcases e with e | e
      · omega
      · exact e
    · rcases e with e | e
      · omega
      · exact e
  clear hN2 l3 b3 hpb hmb
  go_wp2_with fail
  go_loopw [12, 13, 14, 15] (fun s12 s13 _ _ wr => ∃ (i : Nat) (iv : Value) (oa ob : Lo) (I : List Sv), iv = s12 ∧ s13 = .int .i64 i ∧ i ≤ n ∧ Hid (Od w wr pa ma pb mb oa ob (2 * i) iv I (Kd I) (Kd I) ∧ I.length ≤ i)) (fun _ s13 _ _ _ => n - (intOf s13).toNat)
  case atStart => exact ⟨0, _, none, none, [], rfl, rfl, by omega, H3.out, by simp⟩
  case round =>
    obtain ⟨i, iv, oa, ob, I, hiv, rfl, hin, HO⟩ := hrel
    subst hiv
    by_cases hlt : i < n
    · have hlt' : (i : Int) < (n : Int) := by omega
      have h0i : 0 ≤ (i : Int) := by omega
      have hwi : IntKind.i64.wrap ((i : Int) + 1) = (i : Int) + 1 := by rw [IntKind.wrap_i64]; omega
      obtain ⟨y, hy⟩ := get_one L i (by rw [HA.out.2.1]; exact hlt)
      obtain ⟨g, off, rfl, sd⟩ : ∃ g off, la = some ⟨g, off, none⟩ ∧ Sd w g off L := by
        rcases HA.out.2.2.1 with e | e
        · rw [e] at hy; simp at hy
        · exact e
      have HC : Hid (∀ V : World, Below w.heap.size w V → V.cell? ⟨g, off + i * 14, none⟩ = some (.int .i64 y.s.typ) ∧ V.cell? ⟨g, off + i * 14 + 1, none⟩ = some (.int .i64 y.s.org) ∧ V.cell? ⟨g, off + i * 14 + 2, none⟩ = some (.int .i64 y.s.num) ∧ V.cell? ⟨g, off + i * 14 + 3, none⟩ = some y.hv ∧ V.cell? ⟨g, off + i * 14 + 4, none⟩ = some y.tv ∧ V.cell? ⟨g, off + i * 14 + 5, none⟩ = some (.int .i64 y.s.srv) ∧ V.cell? ⟨g, off + i * 14 + 6, none⟩ = some (.int .i64 y.s.off) ∧ V.cell? ⟨g, off + i * 14 + 7, none⟩ = some y.dv ∧ V.cell? ⟨g, off + i * 14 + 8, none⟩ = some (.int .i64 y.s.chk) ∧ V.cell? ⟨g, off + i * 14 + 9, none⟩ = some (.int .i64 y.s.rep) ∧ V.cell? ⟨g, off + i * 14 + 10, none⟩ = some (.int .i64 y.s.upp) ∧ V.cell? ⟨g, off + i * 14 + 11, none⟩ = some (.int .i64 y.s.low) ∧ V.cell? ⟨g, off + i * 14 + 12, none⟩ = some y.cv ∧ V.cell? ⟨g, off + i * 14 + 13, none⟩ = some (.int .i64 y.s.rsn)) := fun V hV => sd_cells (sd.below hV) hy
      obtain ⟨hx, tx, hsi⟩ := HA.out.1 y (List.mem_of_getElem? hy)
      obtain ⟨z, hz⟩ : ∃ z, (prt y.s hx tx).1 = z := ⟨_, rfl⟩
      have HY : Hid (SIn w y.s y.hv y.tv y.dv y.cv hx tx ∧ (prt y.s hx tx).1 = z ∧ y.Sl ∧ SAt w y) := ⟨hsi, hz, SAt.sl ⟨hx, tx, hsi⟩, ⟨hx, tx, hsi⟩⟩
      have HF : Hid (∀ (o : Lo) (m : Nat) (V V' : World), Below w.heap.size w V → (∀ g, Fo m o g → w.heap.size ≤ g) → Kl (Fo m o) V V' → SIn V' y.s y.hv y.tv y.dv y.cv hx tx) := fun o m V V' hV ho hk => hsi.below ⟨hk.os.trans hV.os, hk.tape.trans hV.tape, hk.output.trans hV.output, Nat.le_trans hV.size hk.size, fun g hg => (hk.block g (Nat.lt_of_lt_of_le hg hV.size) (fun e => by have := ho g e; omega)).trans (hV.block g hg)⟩
      have hPa := put_any wr pa ma 1073741824 3 oa (2 * i) HO.out.1.la (by omega) (by omega) (by omega) y.s y.hv y.tv y.dv y.cv hx tx (fun V hk => HF.out oa ma wr V HO.out.1.bw (fun g hg => HO.out.1.nn g (.inl hg)) hk) (HA.out.2.2.2 wr HO.out.1.bw) z hz
      obtain ⟨t0, t1, t2, t3, t4, t5, t6, t7, t8, t9, t10, t11, t12, t13⟩ := HC.out wr HO.out.1.bw
      clear hy sd hsi hz
      go_wp2_with fail
      refine hPa.mono ?_
      clear hPa
      intro e U1 hr1
      by_cases hz0 : z = 0
      · rcases hr1 with ⟨r, hr0, _, _, _, ⟨hz, _⟩ | ⟨_, _, hge, _⟩⟩ | ⟨_, _, rfl, o1, ya, lo1, hi1, P1⟩
        · exact absurd hz0 hz
        · exact absurd hge (hfull _ _ _ _ _ HO.out.1.la (by omega))
        have HO1 : Hid (Od w U1 pa ma pb mb o1 ob (2 * i + 1) iv I (fun k => Kd I k ++ (if k = kdn y.s.typ then [y.s] else [])) (Kd I)) := HO.out.1.put P1
        have hPb := put_any U1 pb mb 1073741824 3 ob (2 * i + 1) HO1.out.lb (by omega) (by omega) (by omega) y.s y.hv y.tv y.dv y.cv hx tx (fun V hk => HF.out ob mb U1 V HO1.out.bw (fun g hg => HO1.out.nn g (.inr (.inl hg))) hk) (HA.out.2.2.2 U1 HO1.out.bw) z HY.out.2.1
        clear P1 t0 t1 t2 t3 t4 t5 t6 t7 t8 t9 t10 t11 t12 t13
        obtain ⟨t0, t1, t2, t3, t4, t5, t6, t7, t8, t9, t10, t11, t12, t13⟩ := HC.out U1 HO1.out.bw
        go_wp2_with fail
        refine hPb.mono ?_
        clear hPb
        intro e U2 hr2
        rcases hr2 with ⟨r, hr0, _, _, _, ⟨hz, _⟩ | ⟨_, _, hge, _⟩⟩ | ⟨_, _, rfl, o2, yb, lo2, hi2, P2⟩
        · exact absurd hz0 hz
        · exact absurd hge (hfull _ _ _ _ _ HO1.out.lb (by omega))
        have HO2 : Hid (Od w U2 pa ma pb mb o1 o2 (2 * i + 1 + 1) iv I (fun k => Kd I k ++ (if k = kdn y.s.typ then [y.s] else [])) (fun k => Kd I k ++ (if k = kdn y.s.typ then [y.s] else []))) := (HO1.out.swap.put P2).swap
        clear P2 t0 t1 t2 t3 t4 t5 t6 t7 t8 t9 t10 t11 t12 t13
        obtain ⟨t0, t1, t2, t3, t4, t5, t6, t7, t8, t9, t10, t11, t12, t13⟩ := HC.out U2 HO2.out.bw
        obtain ⟨ia, ic, hive⟩ := own_sl HO2.out.row
        subst hive
        obtain ⟨N, hN⟩ : ∃ N, I.length = N := ⟨_, rfl⟩
        have hNb : N ≤ 1048576 := by have := HO.out.2; omega
        have hrow := HO2.out.row
        rw [hN] at hrow
        have HRow : Hid (U2.ownsRow 0 37 14 (.slice ia N ic) N (seg I)) := hrow
        have HN : Hid (I.length = N) := hN
        clear hrow hN
        rw [HN.out]
        go_wp2_with (at_builtin; refine wpList_append_own_at _ rfl _ _ 30 rfl 0 37 i0 _ 14 176 Tryd.underlying30 hi hq0 hq1 hq2 rfl (by decide) (.slice ia N ic) N (seg I) (by first | rfl | simp [Act.eval]) (World.ownsRow.alloc HRow.out _) ⟨U2.heap.size, 0, none⟩ 1 1 y.L (by first | rfl | simp [Act.eval]) rfl (row_new0 U2 y.L 37) HY.out.2.2.1.one (by unfold maxLen; omega) (by omega) (by simp) ?_)
        intro v' w6 hown6 hgrow6 hx6 hat6
        have HO3 : Hid (Od w w6 pa ma pb mb o1 o2 (2 * (i + 1)) v' (I ++ [y]) (Kd (I ++ [y])) (Kd (I ++ [y])) ∧ (I ++ [y]).length ≤ i + 1) := by
          have h2 := HO2.out
          have h3 := h2.app (iv' := v') (wr' := w6) (y := y) (by rw [HN.out]; exact hown6) (by rw [HN.out]; exact grown_al hgrow6) (fun g hg => by
            rw [HN.out]
            rcases hat6 with e | e
            · exact .inl (by rw [← e]; exact hg)
            · rw [hg] at e; simp at e; exact .inr (by omega)) ⟨HY.out.2.2.2, prt_typ (HY.out.2.1.trans hz0)⟩
          have eK : Kd (I ++ [y]) = fun k => Kd I k ++ (if k = kdn y.s.typ then [y.s] else []) := funext (fun k => Kd_snoc I y k)
          refine ⟨?_, by simp; have := HO.out.2; omega⟩
          rw [eK, show 2 * (i + 1) = 2 * i + 1 + 1 by omega]
          exact h3
        clear hown6 hgrow6 hx6 hat6 t0 t1 t2 t3 t4 t5 t6 t7 t8 t9 t10 t11 t12 t13
        go_wp2
        go_roundw
        case rel => exact ⟨i + 1, _, _, _, _, rfl, by go_num, by omega, HO3⟩
        case measure => simp [intOf]; omega
      · have hq : e = .returned (.int .i64 z) ∧ Below wr.heap.size wr U1 := by
          rcases hr1 with ⟨r, _, he, _, b1, ⟨_, hrz⟩ | ⟨hz, _⟩⟩ | ⟨hz, _⟩
          · exact ⟨by rw [he, hrz], b1⟩
          · exact absurd hz hz0
          · exact absurd hz hz0
        obtain ⟨rfl, b1⟩ := hq
        clear hr1
        have HO1 : Hid (Od w U1 pa ma pb mb oa ob (2 * i) iv I (Kd I) (Kd I)) := HO.out.1.below b1
        have hPb := put_any U1 pb mb 1073741824 3 ob (2 * i) HO1.out.lb (by omega) (by omega) (by omega) y.s y.hv y.tv y.dv y.cv hx tx (fun V hk => HF.out ob mb U1 V HO1.out.bw (fun g hg => HO1.out.nn g (.inr (.inl hg))) hk) (HA.out.2.2.2 U1 HO1.out.bw) z HY.out.2.1
        clear t0 t1 t2 t3 t4 t5 t6 t7 t8 t9 t10 t11 t12 t13 b1
        obtain ⟨t0, t1, t2, t3, t4, t5, t6, t7, t8, t9, t10, t11, t12, t13⟩ := HC.out U1 HO1.out.bw
        have HR0 : Hid (z ≠ 0) := hz0
        have hrb : (z == 0) = false := by simpa using hz0
        go_wp2_with fail
        refine hPb.mono ?_
        clear hPb
        intro e U2 hr2
        have hq : e = .returned (.int .i64 z) ∧ Below U1.heap.size U1 U2 := by
          rcases hr2 with ⟨r, _, he, _, b1, ⟨_, hrz⟩ | ⟨hz, _⟩⟩ | ⟨hz, _⟩
          · exact ⟨by rw [he, hrz], b1⟩
          · exact absurd hz HR0.out
          · exact absurd hz HR0.out
        obtain ⟨rfl, b2⟩ := hq
        clear hr2
        have HO3 : Hid (Od w U2 pa ma pb mb oa ob (2 * (i + 1)) iv I (Kd I) (Kd I) ∧ I.length ≤ i + 1) := ⟨HO1.out.a (by omega) (by
          have hl := HO1.out.la.below b2
          have hm := hl.mp
          refine ⟨hl.box, hl.nx, ?_⟩
          rcases oa with _ | ⟨x, q⟩
          · exact hm
          · exact ⟨hm.1, hm.2.mono (by omega)⟩) (fun g hg => .inl hg) (Kl.of_below b2) HO1.out.qa (fun k y hk hy => .inl ⟨k, hk, hy⟩), by have := HO.out.2; omega⟩
        clear b2 t0 t1 t2 t3 t4 t5 t6 t7 t8 t9 t10 t11 t12 t13
        go_wp2
        go_roundw
        case rel => exact ⟨i + 1, _, _, _, _, rfl, by go_num, by omega, HO3⟩
        case measure => simp [intOf]; omega
    · have hlt' : ¬ (i : Int) < (n : Int) := by omega
      obtain ⟨M, hM⟩ : ∃ M, 2 * i = M := ⟨_, rfl⟩
      have hMb : M ≤ 2097152 := by omega
      have HO4 : Hid (Od w wr pa ma pb mb oa ob M iv I (Kd I) (Kd I) ∧ I.length ≤ 1048576) := ⟨by rw [← hM]; exact HO.out.1, by have := HO.out.2; omega⟩
      clear HO hM
      obtain ⟨w4, hw4⟩ : ∃ x, x = wr := ⟨_, rfl⟩
      subst hw4
      obtain ⟨B, hB⟩ : ∃ B, w4.heap.size = B := ⟨_, rfl⟩
      have HBx : Hid (w4.heap.size = B) := hB
      obtain ⟨W4, hW4⟩ : ∃ W, w4.alloc (.cells #[.int .i64 0, .int .i64 0] 32) = W := ⟨_, rfl⟩
      have HW4 : Hid (w4.alloc (.cells #[.int .i64 0, .int .i64 0] 32) = W4) := hW4
      have b4 : Below w4.heap.size w4 W4 := by rw [← hW4]; exact (Below.refl _ _).alloc (Nat.le_refl _) _
      have hb4 : W4.heap[B]? = some (.cells #[.int .i64 0, .int .i64 0] 32 (0, 0)) := by rw [← hW4, ← hB]; exact heap_alloc_new' _ _
      have HB4 : Hid (Below w4.heap.size w4 W4 ∧ W4.heap[B]? = some (.cells #[.int .i64 0, .int .i64 0] 32 (0, 0))) := ⟨b4, hb4⟩
      have HnB : Hid (¬ Nm ma mb oa ob iv B ∧ B ≠ pa ∧ B ≠ pb ∧ w.heap.size ≤ B) := by
        have h4 := HO4.out.1
        refine ⟨fun e => ?_, fun e => ?_, fun e => ?_, by have := h4.bw.size; omega⟩
        · rcases e with e | e | e
          · have := h4.la.lt e; omega
          · have := h4.lb.lt e; omega
          · have := (h4.row.lt _ e).2; omega
        · have := (Array.getElem?_eq_some_iff.1 h4.la.box).1; omega
        · have := (Array.getElem?_eq_some_iff.1 h4.lb.box).1; omega
      have z0 : W4.cell? ⟨B, 0, none⟩ = some (.int .i64 0) := (cell_of_row _ _ _ _ _ _ hb4).trans rfl
      have z1 : W4.cell? ⟨B, 1, none⟩ = some (.int .i64 0) := (cell_of_row _ _ _ _ _ _ hb4).trans rfl
      have y0 : W4.frozen? ⟨B, 0, none⟩ = false := frozen_of_row _ _ _ _ _ hb4
      have y1 : W4.frozen? ⟨B, 1, none⟩ = false := frozen_of_row _ _ _ _ _ hb4
      obtain ⟨ia, ic, hive⟩ := own_sl HO4.out.1.row
      obtain ⟨N, hN⟩ : ∃ N, I.length = N := ⟨_, rfl⟩
      rw [hN] at hive
      have HIv : Hid (iv = .slice ia N ic ∧ I.length = N) := ⟨hive, hN⟩
      have hNb : N ≤ 1048576 := by rw [← hN]; exact HO4.out.2
      subst hive
      clear hW4 b4 hb4 hN
      go_upto_region 18 with fail
      rw [HW4.out]
      go_upto_if 73 with fail
      go_cut [12] from 71 to 77 (fun q12 wx => q12 = .slice ia N ic ∧ ∃ S1 S2 : Int, Hid (Od w wx pa ma pb mb oa ob M (.slice ia N ic) I (Kd I) (Kd I) ∧ wx.heap[B]? = some (.cells #[.int .i64 S1, .int .i64 S2] 32 (0, 0))))
      case first =>
        by_cases hN0 : N = 0
        · subst hN0
          go_wp2_with fail
          go_meet
          exact ⟨rfl, 0, 0, HO4.out.1.below HB4.out.1, HB4.out.2⟩
        · have hNp : (0 : Int) < (N : Int) := by omega
          obtain ⟨yy, hyy⟩ := get_one I 0 (by rw [HIv.out.2]; omega)
          have hrw := (own_rw HO4.out.1.row).below HB4.out.1
          obtain ⟨a', c', e1, h1 | ⟨g, off, e2, sd⟩⟩ := hrw
          · have := HIv.out.2; rw [h1] at this; simp at this; omega
          simp only [Value.slice.injEq] at e1
          obtain ⟨rfl, -, -⟩ := e1
          subst e2
          obtain ⟨_, x1, x2, _⟩ := sd_cells sd hyy
          rw [Nat.zero_mul, Nat.add_zero] at x1 x2
          have HF : Hid (∀ V : World, V.heap = ((W4.setCell ⟨B, 0, none⟩ (.int .i64 yy.s.org)).setCell ⟨B, 1, none⟩ (.int .i64 yy.s.num)).heap → V.os = W4.os → V.tape = W4.tape → V.output = W4.output → Od w V pa ma pb mb oa ob M (.slice (some ⟨g, off, none⟩) N ic) I (Kd I) (Kd I) ∧ V.heap[B]? = some (.cells #[.int .i64 yy.s.org, .int .i64 yy.s.num] 32 (0, 0))) := fun V hV h1 h2 h3 => by
            have hb4 := HB4.out.2
            have q1 := heap_setCell_same W4 B 0 _ _ (.int .i64 yy.s.org) hb4
            have q2 := heap_setCell_same _ B 1 _ _ (.int .i64 yy.s.num) q1
            refine ⟨HO4.out.1.below ⟨h1.trans HB4.out.1.os, h2.trans HB4.out.1.tape, h3.trans HB4.out.1.output, by rw [hV]; simpa [World.setCell] using HB4.out.1.size, fun k hk => ?_⟩, by rw [hV, q2]; simp⟩
            rw [hV, heap_setCell_other _ _ _ _ (by have := HBx.out; simp; omega), heap_setCell_other _ _ _ _ (by have := HBx.out; simp; omega)]
            exact HB4.out.1.block k hk
          clear sd hyy
          go_wp2_with fail
          go_meet
          exact ⟨rfl, yy.s.org, yy.s.num, HF.out _ rfl rfl rfl rfl⟩
      case rest =>
      obtain ⟨rfl, S1, S2, H5⟩ := hcut
      obtain ⟨w5, hw5⟩ : ∃ x, x = wc := ⟨_, rfl⟩
      subst hw5
      clear z0 z1 y0 y1 HW4 HB4 HO4
      have hb5 := H5.out.2
      have x0 : w5.cell? ⟨B, 0, none⟩ = some (.int .i64 S1) := (cell_of_row _ _ _ _ _ _ hb5).trans rfl
      have x1 : w5.cell? ⟨B, 1, none⟩ = some (.int .i64 S2) := (cell_of_row _ _ _ _ _ _ hb5).trans rfl
      clear hb5
      go_upto_if 78 with fail
      go_cut [16, 18, 19] from 78 to 90 (fun q16 _ _ wx => ∃ (gn : Nat) (oa' ob' : Lo) (A' : Nat → List Sg), q16 = .int .i64 gn ∧ Hid (Od w wx pa ma pb mb oa' ob' M (.slice ia N ic) I A' A' ∧ wx.heap[B]? = some (.cells #[.int .i64 S1, .int .i64 S2] 32 (0, 0)) ∧ ¬ Nm ma mb oa' ob' (.slice ia N ic) B ∧ (∀ k, k < 3 → A' k = Al I S1 S2 dr all k) ∧ gn + ((A' 0).length + (A' 1).length + (A' 2).length) = N))
      case first =>
        cases dr with
        | false =>
          have HF : Hid (Od w w5 pa ma pb mb oa ob M (.slice ia N ic) I (Kd I) (Kd I) ∧ w5.heap[B]? = some (.cells #[.int .i64 S1, .int .i64 S2] 32 (0, 0)) ∧ ¬ Nm ma mb oa ob (.slice ia N ic) B ∧ (∀ k, k < 3 → Kd I k = Al I S1 S2 false all k) ∧ 0 + ((Kd I 0).length + (Kd I 1).length + (Kd I 2).length) = N) := ⟨H5.out.1, H5.out.2, HnB.out.1, fun k _ => by simp [Al], by rw [Kd_len, HIv.out.2]; omega⟩
          go_wp2_with fail
          go_meet
          exact ⟨0, oa, ob, Kd I, rfl, HF⟩
        | true =>
          obtain ⟨D, hD⟩ : ∃ D, ((Kd I 1).length - (dr1 S1 S2 all (Kd I 1)).length) + ((Kd I 2).length - (dr1 S1 S2 all (Kd I 2)).length) = D := ⟨_, rfl⟩
          have HDd : Hid (((Kd I 1).length - (dr1 S1 S2 all (Kd I 1)).length) + ((Kd I 2).length - (dr1 S1 S2 all (Kd I 2)).length) = D) := hD
          have hD1 := drop_any w5 pa ma 1073741824 3 oa M S1 S2 all H5.out.1.la (by omega)
          rw [H5.out.1.dpn, hD] at hD1
          clear hD
          go_wp2_with fail
          refine hD1.mono ?_
          rintro e U1 ⟨rfl, o1, P1⟩
          have HO1 : Hid (Od w U1 pa ma pb mb o1 ob M (.slice ia N ic) I (fun k => if 0 < k then dr1 S1 S2 all (Kd I k) else Kd I k) (Kd I)) := H5.out.1.drop P1
          have hBl : B < w5.heap.size := (Array.getElem?_eq_some_iff.1 H5.out.2).1
          have hbU1 : U1.heap[B]? = some (.cells #[.int .i64 S1, .int .i64 S2] 32 (0, 0)) := (P1.kl.block B hBl (fun e => HnB.out.1 (.inl e))).trans H5.out.2
          have hnU1 : ¬ Fo ma o1 B := fun e => by
            rcases P1.fo B e with e | e
            · exact HnB.out.1 (.inl e)
            · omega
          have HU1 : Hid (U1.heap[B]? = some (.cells #[.int .i64 S1, .int .i64 S2] 32 (0, 0)) ∧ ¬ Fo ma o1 B) := ⟨hbU1, hnU1⟩
          clear x0 x1
          have x0 : U1.cell? ⟨B, 0, none⟩ = some (.int .i64 S1) := (cell_of_row _ _ _ _ _ _ hbU1).trans rfl
          have x1 : U1.cell? ⟨B, 1, none⟩ = some (.int .i64 S2) := (cell_of_row _ _ _ _ _ _ hbU1).trans rfl
          have hD2 := drop_any U1 pb mb 1073741824 3 ob M S1 S2 all HO1.out.lb (by omega)
          rw [HO1.out.swap.dpn, HDd.out] at hD2
          clear P1 hBl hbU1 hnU1 hD1
          go_wp2_with fail
          refine hD2.mono ?_
          rintro e U2 ⟨rfl, o2, P2⟩
          have HF : Hid (Od w U2 pa ma pb mb o1 o2 M (.slice ia N ic) I (fun k => if 0 < k then dr1 S1 S2 all (Kd I k) else Kd I k) (fun k => if 0 < k then dr1 S1 S2 all (Kd I k) else Kd I k) ∧ U2.heap[B]? = some (.cells #[.int .i64 S1, .int .i64 S2] 32 (0, 0)) ∧ ¬ Nm ma mb o1 o2 (.slice ia N ic) B ∧ (∀ k, k < 3 → (fun k => if 0 < k then dr1 S1 S2 all (Kd I k) else Kd I k) k = Al I S1 S2 true all k) ∧ D + (((fun k => if 0 < k then dr1 S1 S2 all (Kd I k) else Kd I k) 0).length + ((fun k => if 0 < k then dr1 S1 S2 all (Kd I k) else Kd I k) 1).length + ((fun k => if 0 < k then dr1 S1 S2 all (Kd I k) else Kd I k) 2).length) = N) := by
            have hBl : B < U1.heap.size := (Array.getElem?_eq_some_iff.1 HU1.out.1).1
            refine ⟨(HO1.out.swap.drop P2).swap, (P2.kl.block B hBl (fun e => HnB.out.1 (.inr (.inl e)))).trans HU1.out.1, fun e => ?_, fun k _ => by simp [Al], ?_⟩
            · rcases e with e | e | e
              · exact HU1.out.2 e
              · rcases P2.fo B e with e | e
                · exact HnB.out.1 (.inr (.inl e))
                · omega
              · exact HnB.out.1 (.inr (.inr e))
            · have h1 := dr1_le S1 S2 all (Kd I 1)
              have h2 := dr1_le S1 S2 all (Kd I 2)
              have h3 := Kd_len I
              have h4 := HDd.out
              have h5 := HIv.out.2
              simp
              omega
          clear P2 hD2
          go_wp2_with fail
          go_meet
          exact ⟨D, o1, o2, _, rfl, HF⟩
      case rest =>
      obtain ⟨gn, oa', ob', A', rfl, H6⟩ := hcut
      obtain ⟨w6, hw6⟩ : ∃ x, x = wc := ⟨_, rfl⟩
      subst hw6
      clear x0 x1 H5 HnB
      obtain ⟨Q, hQ⟩ : ∃ Q, cnt oa' = Q := ⟨_, rfl⟩
      have HQ : Hid (cnt oa' = Q ∧ gn + Q = N) := ⟨hQ, by rw [← hQ, H6.out.1.cnt]; exact H6.out.2.2.2.2⟩
      have hQb : Q ≤ 1048576 := by have := HQ.out.2; omega
      have hgb : gn ≤ 1048576 := by have := HQ.out.2; omega
      have hCn := lcount_any w6 pa ma 1073741824 3 oa' M H6.out.1.la (by omega)
      rw [hQ] at hCn
      clear hQ
      go_wp2_with fail
      refine hCn.mono ?_
      rintro e w7 ⟨rfl, b7⟩
      have H7 : Hid (Below w6.heap.size w6 w7) := b7
      clear hCn b7
      go_upto_if 94 with fail
      go_cut [21] from 93 to 99 (fun q21 wx => ∃ k : Nat, k ≤ Q ∧ q21 = .int .i64 k ∧ w7 = wx)
      case first =>
        by_cases hQ0 : Q = 0
        · subst hQ0
          go_wp2_with fail
          go_meet
          exact ⟨0, Nat.le_refl _, rfl, rfl⟩
        · have hQp : (0 : Int) < (Q : Int) := by omega
          obtain ⟨C, hC⟩ : ∃ C : Nat, max 0 cut = (C : Int) := ⟨(max 0 cut).toNat, by omega⟩
          have hC2 : max cut 0 = (C : Int) := by omega
          have hC3 : (if 0 < cut then cut else 0) = (C : Int) := by split <;> omega
          obtain ⟨k, hk⟩ : ∃ k, C % (Q + 1) = k := ⟨_, rfl⟩
          have hkQ : k ≤ Q := by rw [← hk]; have := Nat.mod_lt C (show 0 < Q + 1 by omega); omega
          have hrm : Int.tmod (C : Int) ((Q : Int) + 1) = (k : Int) := by rw [← hk, Int.ofNat_tmod]; rfl
          have hq1 : IntKind.i64.wrap ((Q : Int) + 1) = (Q : Int) + 1 := by rw [IntKind.wrap_i64]; omega
          have hwk : IntKind.i64.wrap (k : Int) = (k : Int) := by rw [IntKind.wrap_i64]; omega
          have hne : ¬ (Q : Int) + 1 = 0 := by omega
          have hCb : C ≤ 9223372036854775807 := by omega
          clear hk
          go_wp2_with fail
          go_meet
          exact ⟨k, hkQ, rfl, rfl⟩
      case rest =>
      obtain ⟨k, hkQ, rfl, hwc⟩ := hcut
      subst hwc
      have HO7 : Hid (Od w w7 pa ma pb mb oa' ob' M (.slice ia N ic) I A' A' ∧ w7.heap[B]? = some (.cells #[.int .i64 S1, .int .i64 S2] 32 (0, 0))) := ⟨H6.out.1.below H7.out, (H7.out.block B (Array.getElem?_eq_some_iff.1 H6.out.2.1).1).trans H6.out.2.1⟩
      have hTa := take_any w7 pa ma 1073741824 3 oa' M Q HO7.out.1.la (by omega) (by omega)
      go_wp2_with fail
      refine hTa.mono ?_
      rintro e w8 ⟨ov, o8, rfl, P8⟩
      have eX : (Cc oa').take Q = Cc oa' := List.take_of_length_le (by rw [Cc_len, HQ.out.1]; exact Nat.le_refl _)
      have lX : (Cc oa').length = Q := by rw [Cc_len, HQ.out.1]
      have lY : (Cc ob').length = Q := by
        have h1 := congrArg List.length HO7.out.1.cc
        have h2 := congrArg List.length HO7.out.1.swap.cc
        simp at h1 h2
        omega
      have rX := P8.out
      rw [eX, lX] at rX
      obtain ⟨xa, xc, hov⟩ := own_sl rX
      subst hov
      have l8 : Lw w8 pb mb 1073741824 3 ob' M := HO7.out.1.lb.keep P8.kl (fun g hg e => HO7.out.1.dab g e hg) HO7.out.1.dpb
      have H8 : Hid (TkP w7 w8 pa ma 1073741824 3 oa' o8 M Q (.slice xa Q xc) ∧ w8.ownsRow 0 37 14 (.slice xa Q xc) Q (seg (Cc oa')) ∧ Lw w8 pb mb 1073741824 3 ob' M) := ⟨P8, rX, l8⟩
      have HLn : Hid ((Cc oa').length = Q ∧ (Cc ob').length = Q) := ⟨lX, lY⟩
      have hTb := take_any w8 pb mb 1073741824 3 ob' M k l8 (by omega) (by omega)
      clear hTa eX lX rX P8 l8
      go_wp2_with fail
      refine hTb.mono ?_
      rintro e w9 ⟨yv, o9, rfl, P9⟩
      have rY := P9.out
      rw [show ((Cc ob').take k).length = k by rw [List.length_take, HLn.out.2]; omega] at rY
      obtain ⟨ya, yc, hyv⟩ := own_sl rY
      subst hyv
      have H9 : Hid (TkP w8 w9 pb mb 1073741824 3 ob' o9 M k (.slice ya k yc) ∧ w9.ownsRow 0 37 14 (.slice ya k yc) k (seg ((Cc ob').take k))) := ⟨P9, rY⟩
      obtain ⟨r, hr⟩ : ∃ r, Q - k = r := ⟨_, rfl⟩
      have HR : Hid (Q - k = r) := hr
      have hir : (Q : Int) - (k : Int) = (r : Int) := by omega
      have hrb : r ≤ 1048576 := by omega
      have hTc := take_any w9 pb mb 1073741824 3 o9 M r P9.lw (by omega) (by omega)
      clear hTb P9 rY lY
      go_wp2_with fail
      refine hTc.mono ?_
      rintro e w10 ⟨zv, o10, rfl, P10⟩
      have eZ : (Cc o9).take r = (Cc ob').drop k := by
        rw [H9.out.1.rem]
        exact List.take_of_length_le (by rw [List.length_drop, HLn.out.2]; have := HR.out; omega)
      have rZ := P10.out
      rw [eZ, show ((Cc ob').drop k).length = r by rw [List.length_drop, HLn.out.2]; exact HR.out] at rZ
      obtain ⟨za, zc, hzv⟩ := own_sl rZ
      subst hzv
      have H10 : Hid (TkP w9 w10 pb mb 1073741824 3 o9 o10 M r (.slice za r zc) ∧ w10.ownsRow 0 37 14 (.slice za r zc) r (seg ((Cc ob').drop k))) := ⟨P10, rZ⟩
      have HY10 : Hid (w10.ownsRow 0 37 14 (.slice ya k yc) k (seg ((Cc ob').take k))) := P10.kl.own H9.out.2 (fun g hg => (H9.out.1.new g hg).2)
      have HOne : Hid ((∀ u ∈ seg ((Cc ob').take k), u.oneCell' = true) ∧ (∀ u ∈ seg ((Cc ob').drop k), u.oneCell' = true)) := by
        have hs : ∀ y ∈ Cc ob', y.Sl := fun y hy => by
          obtain ⟨j, hj, hy⟩ := Cc_mem hy
          exact (HO7.out.1.sb j y hj hy).at.sl
        exact ⟨seg_one (fun y hy => (hs y (List.mem_of_mem_take hy)).one), seg_one (fun y hy => (hs y (List.mem_of_mem_drop hy)).one)⟩
      clear hTc P10 rZ eZ hr
      go_wp2_with (at_builtin; refine wpl_row _ rfl _ _ 30 rfl 0 37 i0 _ 14 176 Tryd.underlying30 hi hq0 hq1 hq2 rfl (by decide) (.slice none 0 0) 0 [] (by first | rfl | simp [Act.eval]) (World.ownsRow_nil _ _ _ _) (.slice ya k yc) k (seg ((Cc ob').take k)) (by first | rfl | simp [Act.eval]) HY10.out HOne.out.1 (by unfold maxLen; omega) (by omega) (by simp) ?_)
      intro pv w11 ro11 gr11 at11
      have ro11 : w11.ownsRow 0 37 14 pv k (seg ((Cc ob').take k)) := by first | exact ro11 | (have h := ro11; rw [Nat.zero_add, List.nil_append] at h; exact h)
      obtain ⟨pva, pvc, hpv⟩ := own_sl ro11
      subst hpv
      have H11 : Hid (w11.ownsRow 0 37 14 (.slice pva k pvc) k (seg ((Cc ob').take k)) ∧ w10.grownBy w11 none ∧ (∀ g, (Value.slice pva k pvc).ownBlock = some g → w10.heap.size ≤ g)) := ⟨ro11, gr11, fun g hg => by
        rcases at11 with e | e
        · rw [hg] at e; cases e
        · rw [hg] at e; simp at e; omega⟩
      have HZ11 : Hid (w11.ownsRow 0 37 14 (.slice za r zc) r (seg ((Cc ob').drop k))) := own_blk H10.out.2 (fun g hg => grown_blk gr11 (H10.out.2.lt g hg).2 (fun e => by cases e))
      clear ro11 gr11 at11
      go_wp2_with (at_builtin; refine wpl_row _ rfl _ _ 30 rfl 0 37 i0 _ 14 176 Tryd.underlying30 hi hq0 hq1 hq2 rfl (by decide) (.slice pva k pvc) k (seg ((Cc ob').take k)) (by first | rfl | simp [Act.eval]) H11.out.1 (.slice za r zc) r (seg ((Cc ob').drop k)) (by first | rfl | simp [Act.eval]) HZ11.out HOne.out.2 (by unfold maxLen; omega) (by omega) (by simp) ?_)
      intro pw w12 ro12 gr12 at12
      have ro12' : w12.ownsRow 0 37 14 pw (k + r) (seg (Cc ob')) := by
        have h := ro12
        rw [← seg_app, List.take_append_drop] at h
        exact h
      rw [show k + r = Q by have := HR.out; omega] at ro12'
      obtain ⟨pwa, pwc, hpw⟩ := own_sl ro12'
      subst hpw
      have H12 : Hid (w12.ownsRow 0 37 14 (.slice pwa Q pwc) Q (seg (Cc ob')) ∧ w11.grownBy w12 (Value.slice pva k pvc).ownBlock) := ⟨ro12', gr12⟩
      have HK12 : Hid (Kl (fun g => Fo ma oa' g ∨ Fo mb ob' g) w7 w12 ∧ w12.ownsRow 0 37 14 (.slice xa Q xc) Q (seg (Cc oa')) ∧ Lw w12 pa ma 1073741824 3 o8 M) := by
        obtain ⟨p8, rx, l8⟩ := H8.out
        obtain ⟨p9, ry⟩ := H9.out
        obtain ⟨p10, rz⟩ := H10.out
        obtain ⟨ro11, gr11, nw11⟩ := H11.out
        have gr12 := H12.out.2
        have h7 := HO7.out.1
        have s8 := p8.kl.size
        have s9 := p9.kl.size
        have s10 := p10.kl.size
        have hx9 : ∀ g, (Value.slice xa Q xc).ownBlock = some g → w7.heap.size ≤ g ∧ g < w8.heap.size := fun g hg => ⟨(p8.new g hg).1, (rx.lt g hg).2⟩
        have hfb : ∀ g, Fo mb ob' g → g < w7.heap.size := fun g hg => h7.lb.lt hg
        have hf9 : ∀ g, Fo mb o9 g → g < w7.heap.size ∧ Fo mb ob' g ∨ w8.heap.size ≤ g := fun g hg => by
          rcases p9.fo g hg with e | e
          · exact .inl ⟨hfb g e, e⟩
          · exact .inr e
        have hf8 : ∀ g, Fo ma o8 g → g < w8.heap.size := fun g hg => p8.lw.lt hg
        have hpa8 : pa < w7.heap.size := (Array.getElem?_eq_some_iff.1 h7.la.box).1
        have hrow11 : ∀ k', (Value.slice pva k pvc).ownBlock = some k' → w10.heap.size ≤ k' := nw11
        refine ⟨?_, ?_, ?_⟩
        · have k1 : Kl (fun g => Fo ma oa' g ∨ Fo mb ob' g) w7 w9 := (p8.kl.mono (fun g _ e => .inl e)).then p9.kl (fun g _ e => .inr e)
          have k2 : Kl (fun g => Fo ma oa' g ∨ Fo mb ob' g) w7 w10 := k1.then p10.kl (fun g hg e => by
            rcases hf9 g e with e | e
            · exact .inr e.2
            · omega)
          exact (k2.grown gr11 (fun k' hk' => by cases hk')).grown gr12 (fun k' hk' => .inr (by have := hrow11 k' hk'; omega))
        · have r9 := p9.kl.own rx (fun g hg e => by have := hfb g e; have := (hx9 g hg).1; omega)
          have r10 := p10.kl.own r9 (fun g hg e => by
            rcases hf9 g e with e | e
            · have := (hx9 g hg).1; omega
            · have := (hx9 g hg).2; omega)
          have r11 := own_blk r10 (fun g hg => grown_blk gr11 (r10.lt g hg).2 (by simp))
          exact own_blk r11 (fun g hg => grown_blk gr12 (r11.lt g hg).2 (fun e => by have h1 := hrow11 g e; have h2 := (r10.lt g hg).2; omega))
        · have l9 := p8.lw.keep p9.kl (fun g hg e => by
            rcases p8.fo g hg with e2 | e2
            · exact h7.dab g e2 e
            · have := hfb g e; omega) h7.dpa
          have l10 := l9.keep p10.kl (fun g hg e => by
            rcases hf9 g e with e | e
            · rcases p8.fo g hg with e2 | e2
              · exact h7.dab g e2 e.2
              · omega
            · have := hf8 g hg; omega) (fun e => by
            rcases hf9 pa e with e | e
            · exact h7.dpa e.2
            · omega)
          have l11 := l10.keep (S := fun _ => False) ((Kl.refl _ _).grown gr11 (fun k' hk' => by cases hk')) (fun _ _ e => e) id
          exact l11.keep (S := fun g => (Value.slice pva k pvc).ownBlock = some g) ((Kl.refl _ _).grown gr12 (fun k' hk' => .inl hk')) (fun g hg e => by have h1 := hrow11 g e; have h2 := l10.lt hg; omega) (fun e => by have h1 := hrow11 pa e; omega)
      have HSt : Hid (∀ V, Kl (fun g => Fo ma oa' g ∨ Fo mb ob' g) w7 V → (∀ y ∈ Cc oa', SAt V y) ∧ (∀ y ∈ Cc ob', SAt V y) ∧ Below w.heap.size w V ∧ V.heap[B]? = some (.cells #[.int .i64 S1, .int .i64 S2] 32 (0, 0)) ∧ V.ownsRow 0 37 14 (.slice ia N ic) I.length (seg I)) := fun V hk => by
        have h7 := HO7.out.1
        have hkN : Kl (Nm ma mb oa' ob' (.slice ia N ic)) w7 V := hk.mono (fun g _ e => e.elim .inl (fun e => .inr (.inl e)))
        refine ⟨fun y hy => ?_, fun y hy => ?_, ?_, ?_, hk.own h7.row (fun g hg e => ?_)⟩
        · obtain ⟨j, hj, hy⟩ := Cc_mem hy
          exact h7.sa j y hj hy V hkN
        · obtain ⟨j, hj, hy⟩ := Cc_mem hy
          exact h7.sb j y hj hy V hkN
        · have k := (Kl.of_below (S := Nm ma mb oa' ob' (.slice ia N ic)) h7.bw).then hkN (fun _ _ e => e)
          exact ⟨k.os, k.tape, k.output, k.size, fun g hg => k.block g hg (fun e => by have := h7.nn g e; omega)⟩
        · exact (hk.block B (Array.getElem?_eq_some_iff.1 HO7.out.2).1 (fun e => H6.out.2.2.1 (e.elim .inl (fun e => .inr (.inl e))))).trans HO7.out.2
        · rcases e with e | e
          · exact (h7.di g hg).1 e
          · exact (h7.di g hg).2.1 e
      obtain ⟨t1, t2, t3, _, _⟩ := HSt.out w12 HK12.out.1
      have hSa := sameAll_any w12 (.slice xa Q xc) (.slice pwa Q pwc) (Cc oa') (Cc ob') (own_rw (by rw [HLn.out.1]; exact HK12.out.2.1)) (own_rw (by rw [HLn.out.2]; exact H12.out.1)) (by rw [HO7.out.1.cc, HO7.out.1.swap.cc]) t1 t2 Q HLn.out.1 (by omega)
      clear ro12 ro12' gr12 at12 t1 t2 t3
      go_wp2_with fail
      refine hSa.mono ?_
      rintro e w13 ⟨rfl, b13⟩
      have H13 : Hid (Below w12.heap.size w12 w13) := b13
      have hC8 := lcount_any w13 pa ma 1073741824 3 o8 M (HK12.out.2.2.below b13) (by omega)
      have hc0 : cnt o8 = 0 := by
        rw [← Cc_len, H8.out.1.rem, List.length_drop, HLn.out.1]
        omega
      rw [hc0] at hC8
      clear hSa b13 hc0
      go_wp2_with fail
      refine hC8.mono ?_
      rintro e w14 ⟨rfl, b14⟩
      have H14 : Hid (Below w12.heap.size w12 w14) := H13.out.trans (b14.mono H13.out.size)
      clear hC8 b14
      have k14 : Kl (fun g => Fo ma oa' g ∨ Fo mb ob' g) w7 w14 := HK12.out.1.below H14.out
      obtain ⟨t1, t2, t3, t4, t5⟩ := HSt.out w14 k14
      have x0 : w14.cell? ⟨B, 0, none⟩ = some (.int .i64 S1) := (cell_of_row _ _ _ _ _ _ t4).trans rfl
      have x1 : w14.cell? ⟨B, 1, none⟩ = some (.int .i64 S2) := (cell_of_row _ _ _ _ _ _ t4).trans rfl
      have h7it := HO7.out.1.it
      have hE : (Cc oa').map Sv.s = Ep S1 S2 dr all I 3 := by
        rw [HO7.out.1.cc, H6.out.2.2.2.1 0 (by omega), H6.out.2.2.2.1 1 (by omega), H6.out.2.2.2.1 2 (by omega)]
        exact Al_all (fun y hy => (h7it y hy).2) S1 S2 dr all
      have hIo := inOrder_any w14 (.slice xa Q xc) (.slice ia N ic) (Cc oa') I ((own_rw (by rw [HLn.out.1]; exact HK12.out.2.1)).below H14.out) (own_rw t5) S1 S2 dr all hE t1 (fun y hy => (h7it y hy).1.below t3) N Q HIv.out.2 HLn.out.1 (by omega) (by omega)
      have H14b : Hid (Below w.heap.size w w14) := t3
      have hgq : (Q : Int) + (gn : Int) = (N : Int) := by have := HQ.out.2; omega
      clear t1 t2 t3 t4 t5 k14 hE h7it
      go_wp2_with fail
      refine hIo.mono ?_
      rintro e w15 ⟨rfl, b15⟩
      have H15 : Hid (Below w.heap.size w w15) := H14b.out.trans (b15.mono H14b.out.size)
      clear hIo b15
      go_wp2
      go_ret
      exact ⟨rfl, H15.out⟩

end Go.Proofs.YtdfdaambfihjaaaDoor.L
