import Derived.Test.YtblkpmelneignacAsk
namespace Go.Proofs.Ytblkpmelneignac
open Go.RowKit

theorem asks_at (n : Nat) (ai al : Option Addr) (ci cl : Nat) (l : List Sp) (w : World) (f t : Int) (lo Bk : Nat) (lv : Value) (cs : List Rw) (he : l.length = n) (hi : Ls w (.slice ai n ci) l) (hl : Ls w (.slice al n cl) l) (hn : al = none → cl = 0) (hb : Bkp w lo Bk lv cs) (hm : cs.length ≤ 1000) :
    Calls Try.prog 11 #[.pointer (some ⟨Bk, 0, none⟩), .slice ai n ci, .slice al n cl, .agg #[.int .i64 f, .int .i64 t]] w (AskPost w lo Bk lv cs) := by
  subst he
  exact asks_any ai al ci cl l w f t lo Bk lv cs hi hl hn hb hm
theorem SOwn.capz {W : World} {b n c : Nat} {a : Option Addr} {l : List Sp} (h : SOwn W b (.slice a n c) l) : a = none → c = 0 := by
  intro ha
  subst ha
  rcases h.2 with ⟨q, _⟩ | ⟨g, cap, cur, hv, _⟩
  · simp only [Value.slice.injEq, true_and] at q; exact q.2
  · simp at hv
theorem Bkp.kp {T : Nat → Prop} {W W' : World} {lo Bk : Nat} {lv : Value} {cs : List Rw} (h : Bkp W lo Bk lv cs) (hk : Kp T W W') (h1 : ¬ T Bk) (h2 : ∀ g, lv.ownBlock = some g → ¬ T g) (h3 : ∀ g, inC cs g → ¬ T g) : Bkp W' lo Bk lv cs :=
  ⟨(hk.block Bk h.book.lt h1).trans h.book, own_keep h.row hk h2, ⟨fun j x hx => (h.cl.own j x hx).kp hk (fun g hg => h3 g ⟨j, x, hx, hg⟩), h.cl.apt, h.cl.off⟩, h.small, h.lo, h.ne⟩
theorem Kp.one {A B : World} {g : Nat} (h : A.grownBy B (some g)) : Kp (fun k => k = g) A B := (Kp.refl _ A).grown h (fun k e => .inl (by simpa using e.symm))

set_option maxHeartbeats 16000000 in
set_option maxRecDepth 100000 in
theorem answers_in (aa : Option Addr) (ca : Nat) (a : List Sp) (w : World) (f t : Int) (ha : Ls w (.slice aa a.length ca) a) (hn : aa = none → ca = 0) (ma : a.length ≤ 1048576) :
    Calls Try.prog 3 #[.slice aa a.length ca, .agg #[.int .i64 f, .int .i64 t]] w fun e w' => e = .returned (.bool true) ∧ Below w.heap.size w w' := by
  obtain ⟨i0, hi, hz0, hz1, hz2⟩ := info_parts Try.info_span
  have hb0 := below_box w f t
  have d0 := box0 w (.int .i64 f) (.int .i64 t) 24
  have d1 := box1 w (.int .i64 f) (.int .i64 t) 24
  have ha0 := ha.below hb0
  have HNc : Hid (aa = none → ca = 0) := hn
  clear hn ha
  go_enter Try.func3, Try.ntmps3
  go_wp2_with fail
  obtain ⟨wb, hwb⟩ : ∃ wb, w.alloc (.cells #[.int .i64 f, .int .i64 t] 24) = wb := ⟨_, rfl⟩
  rw [hwb] at hb0 d0 d1 ha0 ⊢
  clear hwb
  have HA : Hid (∀ W, Below wb.heap.size wb W → Ls W (.slice aa a.length ca) a) := fun W hW => ha0.below hW
  have HF : Hid (∀ W, Below wb.heap.size wb W → Below w.heap.size w W) := fun W hW => hb0.trans (hW.mono hb0.size)
  have HD : Hid (∀ W, Below wb.heap.size wb W → W.cell? ⟨w.heap.size, 0, none⟩ = some (.int .i64 f) ∧ W.cell? ⟨w.heap.size, 1, none⟩ = some (.int .i64 t)) := fun W hW => ⟨cell_below d0 hW, cell_below d1 hW⟩
  clear hb0 d0 d1 ha0
  refine (awake_any _).mono ?_
  rintro e w1 ⟨rfl, hb1⟩
  have HW1 : Hid (Below wb.heap.size wb w1) := hb1
  have sz1 : wb.heap.size ≤ w1.heap.size := hb1.size
  clear hb1
  -- Lent
  go_wp2_with fail
  refine (lent_any (HA.out w1 HW1.out) ma).mono ?_
  rintro e w2 ⟨rfl, hs2, hb2⟩
  have HW2 : Hid (Below wb.heap.size wb w2) := HW1.out.trans (hb2.mono HW1.out.size)
  have OA : Hid (SOwn w2 w1.heap.size (.slice (some ⟨w1.heap.size, 0, none⟩) (a.length + 2) (a.length + 2)) (mkd a)) := hs2
  have pA : w1.heap.size < w2.heap.size := (hs2.lt _ rfl).2
  clear hs2 hb2
  have HX : Hid (∀ W, SOwn W w1.heap.size (.slice (some ⟨w1.heap.size, 0, none⟩) (a.length + 2) (a.length + 2)) (mkd a) → Ls W (.slice (some ⟨w1.heap.size, 0, none⟩) a.length (a.length + 2)) a) := fun W hW => by have := hW.ls_take (n := a.length) (c := a.length + 2) (by omega) (by omega) (by omega); rw [mkd_take] at this; exact this
  -- the book
  have hb3 : Below w2.heap.size w2 (w2.alloc (.cells #[.slice none 0 0, .slice none 0 0] 30)) := (Below.refl _ _).alloc (Nat.le_refl _) _
  have HB3 : Hid (Bkp (w2.alloc (.cells #[.slice none 0 0, .slice none 0 0] 30)) wb.heap.size w2.heap.size (.slice none 0 0) []) := Bkp.start (W := w2) (lo := wb.heap.size) HW2.out.size
  have HW3 : Hid (Below wb.heap.size wb (w2.alloc (.cells #[.slice none 0 0, .slice none 0 0] 30))) := HW2.out.trans (hb3.mono HW2.out.size)
  have HS3 : Hid ((w2.alloc (.cells #[.slice none 0 0, .slice none 0 0] 30)).heap.size = w2.heap.size + 1) := by unfold Hid; simp
  have OA3 : Hid (SOwn (w2.alloc (.cells #[.slice none 0 0, .slice none 0 0] 30)) w1.heap.size (.slice (some ⟨w1.heap.size, 0, none⟩) (a.length + 2) (a.length + 2)) (mkd a)) := OA.out.below hb3
  have HK3 : Hid ((w2.alloc (.cells #[.slice none 0 0, .slice none 0 0] 30)).cell? ⟨w.heap.size, 0, none⟩ = some (.int .i64 f) ∧ (w2.alloc (.cells #[.slice none 0 0, .slice none 0 0] 30)).cell? ⟨w.heap.size, 1, none⟩ = some (.int .i64 t)) := HD.out _ HW3.out
  have k0 := HK3.out.1
  have k1 := HK3.out.2
  clear hb3 OA
  go_wp2_with fail
  obtain ⟨w3, hw3⟩ : ∃ w3, w2.alloc (.cells #[.slice none 0 0, .slice none 0 0] 30) = w3 := ⟨_, rfl⟩
  rw [hw3] at HB3 HW3 HS3 OA3 ⊢
  clear hw3 HK3 k0 k1
  have sz3 : w2.heap.size < w3.heap.size := by have := HS3.out; omega
  -- first
  refine (asks_at a.length _ _ _ _ a w3 f t wb.heap.size w2.heap.size (.slice none 0 0) [] rfl (HX.out w3 OA3.out) (HA.out w3 HW3.out) HNc.out HB3.out (by simp)).mono ?_
  rintro e w4 ⟨rfl, lv4, cs4, hb4, hc4, hk4, hl4, hi4⟩
  have HB4 : Hid (Bkp w4 wb.heap.size w2.heap.size lv4 cs4) := hb4
  have HC4 : Hid (cs4.length = 3) := hc4
  have T4 : Hid (∀ g, lv4.ownBlock = some g → w3.heap.size ≤ g) := fun g h => by rcases hl4 g h with q | q; cases q; exact q
  have I4 : Hid (∀ g, inC cs4 g → w3.heap.size ≤ g) := fun g h => by rcases hi4 g h with ⟨j, x, hx, _⟩ | q; simp at hx; exact q
  have HW4 : Hid (Below wb.heap.size wb w4) := HW3.out.trans (hk4.below (fun g h => by rcases h with h | h; omega; cases h) HW3.out.size)
  have OA4 : Hid (SOwn w4 w1.heap.size (.slice (some ⟨w1.heap.size, 0, none⟩) (a.length + 2) (a.length + 2)) (mkd a)) := OA3.out.kp hk4 (fun g hg h => by simp [Value.ownBlock] at hg; rcases h with h | h; omega; cases h)
  have sz4 : w3.heap.size ≤ w4.heap.size := hk4.size
  clear hb4 hc4 hk4 hl4 hi4 HB3 HW3 HS3 OA3
  obtain ⟨k0, k1⟩ := HD.out w4 HW4.out
  -- second
  go_wp2_with fail
  refine (asks_at a.length _ _ _ _ a w4 f t wb.heap.size w2.heap.size lv4 cs4 rfl (HX.out w4 OA4.out) (HA.out w4 HW4.out) HNc.out HB4.out (by have := HC4.out; omega)).mono ?_
  rintro e w5 ⟨rfl, lv5, cs5, hb5, hc5, hk5, hl5, hi5⟩
  have HB5 : Hid (Bkp w5 wb.heap.size w2.heap.size lv5 cs5) := hb5
  have HC5 : Hid (cs5.length = 6) := by have := HC4.out; unfold Hid; omega
  have sz5 : w4.heap.size ≤ w5.heap.size := hk5.size
  have T5 : Hid (∀ g, lv5.ownBlock = some g → w3.heap.size ≤ g ∧ g < w5.heap.size) := fun g h => ⟨by rcases hl5 g h with q | q; exact T4.out g q; omega, (hb5.row.lt g h).2⟩
  have I5 : Hid (∀ g, inC cs5 g → w3.heap.size ≤ g ∧ g < w5.heap.size) := fun g h => ⟨by rcases hi5 g h with q | q; exact I4.out g q; omega, by obtain ⟨j, x, hx, hg⟩ := h; exact ((hb5.cl.own j x hx).lt g hg).2⟩
  have HW5 : Hid (Below wb.heap.size wb w5) := HW4.out.trans (hk5.below (fun g h => by rcases h with h | h; omega; have := T4.out g h; omega) HW4.out.size)
  have OA5 : Hid (SOwn w5 w1.heap.size (.slice (some ⟨w1.heap.size, 0, none⟩) (a.length + 2) (a.length + 2)) (mkd a)) := OA4.out.kp hk5 (fun g hg h => by simp [Value.ownBlock] at hg; rcases h with h | h; omega; have := T4.out g h; omega)
  clear hb5 hc5 hk5 hl5 hi5 HB4 HW4 OA4 HC4 T4 I4 k0 k1
  -- left
  go_wp2_with fail
  refine (lent_any (HA.out w5 HW5.out) ma).mono ?_
  rintro e w6 ⟨rfl, hs6, hb6⟩
  have HW6 : Hid (Below wb.heap.size wb w6) := HW5.out.trans (hb6.mono HW5.out.size)
  have OA6 : Hid (SOwn w6 w1.heap.size (.slice (some ⟨w1.heap.size, 0, none⟩) (a.length + 2) (a.length + 2)) (mkd a)) := OA5.out.below hb6
  have HB6 : Hid (Bkp w6 wb.heap.size w2.heap.size lv5 cs5) := HB5.out.below hb6
  have sz6 : w5.heap.size ≤ w6.heap.size := hb6.size
  have hsm7 := same_ls (OA6.out.ls (by rw [mkd_len]; omega)) (hs6.ls (by rw [mkd_len]; omega))
  rw [show eqB (mkd a) (mkd a) = true from decide_eq_true rfl] at hsm7
  clear hs6 hb6 HW5 OA5 HB5
  go_wp2_with fail
  refine hsm7.mono ?_
  rintro e w7 ⟨rfl, hb7⟩
  have HW7 : Hid (Below wb.heap.size wb w7) := HW6.out.trans (hb7.mono HW6.out.size)
  have OA7 : Hid (SOwn w7 w1.heap.size (.slice (some ⟨w1.heap.size, 0, none⟩) (a.length + 2) (a.length + 2)) (mkd a)) := OA6.out.below hb7
  have HB7 : Hid (Bkp w7 wb.heap.size w2.heap.size lv5 cs5) := HB6.out.below hb7
  have sz7 : w6.heap.size ≤ w7.heap.size := hb7.size
  clear hsm7 hb7 HW6 OA6 HB6
  -- spaced
  go_wp2_with fail
  refine (spaced_any w1.heap.size a.length (a.length + 2) (a.length + 2) (mkd a) w1.heap.size (a.length + 2) w7 OA7.out (by omega) ma).mono ?_
  rintro e w8 ⟨⟨vs, rfl⟩, hs8, hg8⟩
  have OS8 : Hid (SOwn w8 w1.heap.size (.slice (some ⟨w1.heap.size, 0, none⟩) (a.length + 2) (a.length + 2)) (spd a.length ++ (mkd a).drop a.length)) := hs8
  have HW8 : Hid (Below wb.heap.size wb w8) := HW7.out.grown hg8 HW7.out.size (fun k e => by cases e; omega)
  have HB8 : Hid (Bkp w8 wb.heap.size w2.heap.size lv5 cs5) := HB7.out.kp (Kp.one hg8) (by omega) (fun g h q => by have := T5.out g h; omega) (fun g h q => by have := I5.out g h; omega)
  have sz8 : w7.heap.size ≤ w8.heap.size := hg8.size
  clear hs8 hg8 HW7 OA7 HB7 HX
  have HXs : Hid (∀ W, SOwn W w1.heap.size (.slice (some ⟨w1.heap.size, 0, none⟩) (a.length + 2) (a.length + 2)) (spd a.length ++ (mkd a).drop a.length) → Ls W (.slice (some ⟨w1.heap.size, 0, none⟩) a.length (a.length + 2)) (spd a.length)) := fun W hW => by have := hW.ls_take (n := a.length) (c := a.length + 2) (by omega) (by omega) (by omega); rw [List.take_left' (spd_len _)] at this; exact this
  have hsrc := (HXs.out w8 OS8.out)
  have hspa : Spa w8 (some ⟨w1.heap.size, 0, none⟩) (spd a.length) := by obtain ⟨a', c', hv, hs, _⟩ := hsrc.shape; simp only [Value.slice.injEq] at hv; obtain ⟨rfl, _, _⟩ := hv; exact hs
  have HSrc : Hid (∀ j u, ((spd a.length).flatMap spc)[j]? = some u → w8.cell? ((⟨w1.heap.size, 0, none⟩ : Addr).add j) = some u) := spa_src hspa
  clear hsrc hspa
  go_wp2_with (at_builtin; refine wpList_append_own_at _ rfl _ _ 22 rfl w8.heap.size 24 i0 (.agg #[.int .i64 0, .int .i64 0]) 2 16 Try.underlying22 hi hz0 hz1 hz2 rfl (by decide) _ _ _ rfl (World.ownsRow_nil _ _ _ _) ⟨w1.heap.size, 0, none⟩ a.length (a.length + 2) ((spd a.length).flatMap spc) rfl (by rw [spc_len, spd_len]) HSrc.out ?c2 ?c3 ?c4 (Nat.le_refl _) ?_)
  case c2 => intro v hv; obtain ⟨p, _, hp⟩ := List.mem_flatMap.mp hv; simp [spc] at hp; rcases hp with rfl | rfl <;> rfl
  case c3 => unfold maxLen; omega
  case c4 => omega
  intro vo w9 hown9 hgrow9 _ _
  have hb9 : Below w8.heap.size w8 w9 := (Below.refl _ _).grown hgrow9 (Nat.le_refl _) (by intro k e; cases e)
  have hs9 : SOwn w9 w8.heap.size vo (spd a.length) := by unfold SOwn; rw [spd_len]; simpa using hown9
  obtain ⟨a9, c9, hvo⟩ := hs9.shape
  rw [spd_len] at hvo
  subst hvo
  have HW9 : Hid (Below wb.heap.size wb w9) := HW8.out.trans (hb9.mono HW8.out.size)
  have sz9 : w8.heap.size ≤ w9.heap.size := hb9.size
  have OS9 : Hid (SOwn w9 w1.heap.size (.slice (some ⟨w1.heap.size, 0, none⟩) (a.length + 2) (a.length + 2)) (spd a.length ++ (mkd a).drop a.length)) := OS8.out.below hb9
  have HB9 : Hid (Bkp w9 wb.heap.size w2.heap.size lv5 cs5) := HB8.out.below hb9
  have OO9 : Hid (SOwn w9 w8.heap.size (.slice a9 a.length c9) (spd a.length)) := hs9
  have pO : Hid (∀ g, (Value.slice a9 a.length c9).ownBlock = some g → w8.heap.size ≤ g ∧ g < w9.heap.size) := hs9.lt
  clear hown9 hgrow9 hb9 hs9 HSrc HW8 OS8 HB8
  obtain ⟨k0, k1⟩ := HD.out w9 HW9.out
  -- third
  go_wp2_with fail
  refine (asks_at a.length _ _ _ _ (spd a.length) w9 f t wb.heap.size w2.heap.size lv5 cs5 (spd_len _) (HXs.out w9 OS9.out) (OO9.out.ls (by rw [spd_len]; omega)) OO9.out.capz HB9.out (by have := HC5.out; omega)).mono ?_
  rintro e w10 ⟨rfl, lv10, cs10, hb10, hc10, hk10, hl10, hi10⟩
  have HB10 : Hid (Bkp w10 wb.heap.size w2.heap.size lv10 cs10) := hb10
  have HC10 : Hid (cs10.length = 9) := by have := HC5.out; unfold Hid; omega
  have sz10 : w9.heap.size ≤ w10.heap.size := hk10.size
  have I10 : Hid (∀ g, inC cs10 g → (w3.heap.size ≤ g ∧ g < w5.heap.size) ∨ w9.heap.size ≤ g) := fun g h => by rcases hi10 g h with q | q; exact .inl (I5.out g q); exact .inr q
  have HW10 : Hid (Below wb.heap.size wb w10) := HW9.out.trans (hk10.below (fun g h => by rcases h with h | h; omega; have := T5.out g h; omega) HW9.out.size)
  have OS10 : Hid (SOwn w10 w1.heap.size (.slice (some ⟨w1.heap.size, 0, none⟩) (a.length + 2) (a.length + 2)) (spd a.length ++ (mkd a).drop a.length)) := OS9.out.kp hk10 (fun g hg h => by simp [Value.ownBlock] at hg; rcases h with h | h; omega; have := T5.out g h; omega)
  have OO10 : Hid (SOwn w10 w8.heap.size (.slice a9 a.length c9) (spd a.length)) := OO9.out.kp hk10 (fun g hg h => by have := pO.out g hg; rcases h with h | h; omega; have := T5.out g h; omega)
  clear hb10 hc10 hk10 hl10 hi10 HB9 HW9 OS9 OO9 HC5 T5 I5 k0 k1 HD HA
  -- still
  have hsm11 := same_ls (HXs.out w10 OS10.out) (OO10.out.ls (by rw [spd_len]; omega))
  rw [show eqB (spd a.length) (spd a.length) = true from decide_eq_true rfl] at hsm11
  go_wp2_with fail
  refine hsm11.mono ?_
  rintro e w11 ⟨rfl, hb11⟩
  have HW11 : Hid (Below wb.heap.size wb w11) := HW10.out.trans (hb11.mono HW10.out.size)
  have OS11 : Hid (SOwn w11 w1.heap.size (.slice (some ⟨w1.heap.size, 0, none⟩) (a.length + 2) (a.length + 2)) (spd a.length ++ (mkd a).drop a.length)) := OS10.out.below hb11
  have OO11 : Hid (SOwn w11 w8.heap.size (.slice a9 a.length c9) (spd a.length)) := OO10.out.below hb11
  have HB11 : Hid (Bkp w11 wb.heap.size w2.heap.size lv10 cs10) := HB10.out.below hb11
  clear hsm11 hb11 HW10 OS10 OO10 HB10
  -- owned
  obtain ⟨Lb, capb, hbks, _⟩ := HB11.out.bks (by have := HC10.out; omega)
  have how := owned_some w11 wb.heap.size w2.heap.size Lb capb _ _ hbks (by have := HC10.out; omega) (by have := HC10.out; omega)
  clear hbks HB11
  go_wp2_with fail
  refine how.mono ?_
  rintro e w12 ⟨rfl, hk12⟩
  have OS12 : Hid (SOwn w12 w1.heap.size (.slice (some ⟨w1.heap.size, 0, none⟩) (a.length + 2) (a.length + 2)) (spd a.length ++ (mkd a).drop a.length)) := OS11.out.kp hk12 (fun g hg h => by simp [Value.ownBlock] at hg; rcases h with h | h; omega; have := I10.out g h; omega)
  have OO12 : Hid (SOwn w12 w8.heap.size (.slice a9 a.length c9) (spd a.length)) := OO11.out.kp hk12 (fun g hg h => by have := pO.out g hg; rcases h with h | h; omega; have := I10.out g h; omega)
  have HW12 : Hid (Below wb.heap.size wb w12) := HW11.out.trans (hk12.below (fun g h => by rcases h with h | h; omega; have := I10.out g h; omega) HW11.out.size)
  clear how hk12 HW11 OS11 OO11 I10 HC10
  -- again
  have hsm13 := same_ls (HXs.out w12 OS12.out) (OO12.out.ls (by rw [spd_len]; omega))
  rw [show eqB (spd a.length) (spd a.length) = true from decide_eq_true rfl] at hsm13
  go_wp2_with fail
  refine hsm13.mono ?_
  rintro e w13 ⟨rfl, hb13⟩
  have HW13 : Hid (Below wb.heap.size wb w13) := HW12.out.trans (hb13.mono HW12.out.size)
  clear hsm13 hb13 HW12 OS12 OO12
  go_wp2
  go_ret
  exact ⟨by simp, HF.out _ HW13.out⟩

theorem answers_any {v : Value} {l : List Sp} {w : World} (h : Ls w v l) (f t : Int) (ml : l.length ≤ 1048576) (_ : ∀ s ∈ l, (-9223372036854775808 ≤ s.1 ∧ s.1 ≤ 9223372036854775807) ∧ (-9223372036854775808 ≤ s.2 ∧ s.2 ≤ 9223372036854775807)) (hn : ∀ n c, v = .slice none n c → c = 0) (_ : (-9223372036854775808 ≤ f ∧ f ≤ 9223372036854775807) ∧ (-9223372036854775808 ≤ t ∧ t ≤ 9223372036854775807)) :
    Calls Try.prog 3 #[v, .agg #[.int .i64 f, .int .i64 t]] w fun e w' => e = .returned (.bool true) ∧ Below w.heap.size w w' := by
  obtain ⟨a, c, rfl, _⟩ := h.shape
  exact answers_in a c l w f t h (fun ha => hn _ _ (by rw [ha])) ml

end Go.Proofs.Ytblkpmelneignac
