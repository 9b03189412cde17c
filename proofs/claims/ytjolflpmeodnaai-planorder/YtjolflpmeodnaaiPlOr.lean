import Derived.Test.YtjolflpmeodnaaiPlOm
namespace Go.Proofs.Ytjolflpmeodnaai
set_option linter.unusedVariables false
open Go.RowKit

/-- Numbers lie at a slice's head. -/
def Ita (w : World) (a : Option Addr) (l : List Int) : Prop := l = [] ∨ ∃ g off, a = some ⟨g, off, none⟩ ∧ ∀ (i : Nat) (x : Int), l[i]? = some x → w.cell? ⟨g, off + i, none⟩ = some (.int .i64 x)
theorem Ita.below {w w' : World} {a : Option Addr} {l : List Int} (h : Ita w a l) (hb : Below w.heap.size w w') : Ita w' a l := by
  rcases h with h | ⟨g, off, ha, h⟩
  · exact .inl h
  · exact .inr ⟨g, off, ha, fun i x hx => pl_cell (h i x hx) hb⟩

/-- What stands in the rows while the contacts are put into another order. -/
structure Og (w : World) (base : Nat) (w0 : World) (q o : Value) (rl ol R : List Ct) : Prop where
  rest : COwn w base q rl
  other : COwn w base o ol
  apart : o.ownBlock = none ∨ q.ownBlock ≠ o.ownBlock
  bel : Below base w0 w
  perm : (ol ++ rl).Perm R

theorem pl_le_alloc (w : World) (o : Obj) : w.heap.size ≤ (w.alloc o).heap.size := by simp

theorem og_one {wr w6 : World} {base : Nat} {w0 : World} {g N cap : Nat} {o vo : Value} {rl ol R : List Ct} {c : Ct} {ob : Obj} (hG : Og wr base w0 (.slice (some ⟨g, 0, none⟩) N cap) o rl ol R)
    (hown : w6.ownsRow base 33 4 vo (ol.length + 1) (ol.flatMap ctL ++ ctL c)) (hgrow : (wr.alloc ob).grownBy w6 o.ownBlock) (hat : vo.ownBlock = o.ownBlock ∨ vo.ownBlock = some (wr.heap.size + 1)) (hbs : base ≤ wr.heap.size) :
    COwn w6 base (.slice (some ⟨g, 0, none⟩) N cap) rl ∧ COwn w6 base vo (ol ++ [c]) ∧ (vo.ownBlock = none ∨ some g ≠ vo.ownBlock) ∧ Below base w0 w6 ∧ base ≤ w6.heap.size := by
  have hgl := (World.ownsRow.lt hG.rest g rfl)
  have hne : some g ≠ o.ownBlock := by
    rcases hG.apart with h | h
    · rw [h]; simp
    · exact h
  have hB : Below base w0 w6 := (hG.bel.alloc hbs _).grown hgrow (by simp; omega) (fun r hr => (World.ownsRow.lt hG.other r hr).1)
  refine ⟨World.ownsRow.kept (World.ownsRow.alloc hG.rest _) hgrow (.inr hne), ?_, ?_, hB, Nat.le_trans hbs (Nat.le_trans (pl_le_alloc wr ob) hgrow.size)⟩
  · unfold COwn; rw [List.flatMap_append, List.length_append]; simpa using hown
  · rcases hat with h | h
    · rw [h]; exact .inr hne
    · rw [h]; refine .inr (fun e => ?_)
      have e' : g = wr.heap.size + 1 := Option.some.inj e
      omega

theorem og_two {w0 w6 w7 w8 : World} {base : Nat} {N k : Nat} {vo vl v8 : Value} {rl ol R : List Ct} {c : Ct} (hp : (ol ++ rl).Perm R) (hk : rl[k]? = some c)
    (hb6 : Below base w0 w6) (hs6 : base ≤ w6.heap.size) (ho6 : COwn w6 base vo (ol ++ [c]))
    (hown7 : w7.ownsRow base 33 4 vl k ((rl.take k).flatMap ctL)) (hgrow7 : w6.grownBy w7 none) (hat7 : vl.ownBlock = none ∨ vl.ownBlock = some w6.heap.size)
    (hown8 : w8.ownsRow base 33 4 v8 (k + (N - (k + 1))) ((rl.take k).flatMap ctL ++ (rl.drop (k + 1)).flatMap ctL)) (hgrow8 : w7.grownBy w8 vl.ownBlock) (hat8 : v8.ownBlock = vl.ownBlock ∨ v8.ownBlock = some w7.heap.size) (hN : rl.length = N) (hkN : k < N) :
    Og w8 base w0 v8 vo (rl.take k ++ rl.drop (k + 1)) (ol ++ [c]) R := by
  have hlt := World.ownsRow.lt ho6
  have ho7 : COwn w7 base vo (ol ++ [c]) := World.ownsRow.kept ho6 hgrow7 (by cases h : vo.ownBlock with | none => exact .inl rfl | some r => exact .inr (by simp))
  have hne : vo.ownBlock = none ∨ vo.ownBlock ≠ vl.ownBlock := by
    cases h : vo.ownBlock with
    | none => exact .inl rfl
    | some r =>
      refine .inr (fun e => ?_)
      have := (hlt r h).2
      rcases hat7 with h7 | h7 <;> rw [h7] at e
      · cases e
      · cases e; omega
  refine ⟨?_, World.ownsRow.kept ho7 hgrow8 hne, ?_, (hb6.grown hgrow7 hs6 (fun r hr => by cases hr)).grown hgrow8 (Nat.le_trans hs6 hgrow7.size) (fun r hr => (World.ownsRow.lt hown7 r hr).1), perm_move hp hk⟩
  · unfold COwn
    rw [List.flatMap_append, List.length_append, List.length_take, List.length_drop, hN, show min k N = k by omega]
    exact hown8
  · cases h : vo.ownBlock with
    | none => exact .inl rfl
    | some r =>
      refine .inr (fun e => ?_)
      have h1 := (hlt r h).2
      have h2 := hgrow7.size
      rcases hat8 with h8 | h8
      · rw [h8] at e
        rcases hat7 with h7 | h7 <;> rw [h7] at e
        · cases e
        · cases e; omega
      · rw [h8] at e; cases e; omega

set_option maxHeartbeats 8000000 in
set_option maxRecDepth 100000 in
/-- The law PlanOrder. -/
theorem planOrder_any (ad ta : Option Addr) (cp tc n : Nat) (l : List Ct) (hln : l.length = n) (tl : List Int) (cut p x m : Int) (w : World) (h : Cta w ad l) (hn : n ≤ 9223372036854775807) (htl : Ita w ta tl) (htn : tl.length ≤ 9223372036854775807) (hm : m ≤ 9223372036854775807) :
    Calls Try.prog 5 #[.slice ad n cp, .slice ta tl.length tc, .int .i64 cut, .int .i64 p, .int .i64 x, .int .i64 m] w fun e w' => e = .returned (.bool true) ∧ Below w.heap.size w w' := by
  obtain ⟨i0, hi, hz0, hz1, hz2⟩ := pinfo_parts Try.pinfo_ct
  have HS : Hid (∀ W, Below w.heap.size w W → Cta W ad l) := fun W hb => h.below hb
  have HTl : Hid (∀ W, Below w.heap.size w W → Ita W ta tl) := fun W hb => htl.below hb
  have HA := awake9_any w
  have HP : Hid (∀ W, Below w.heap.size w W → Calls Try.prog 7 #[.slice ad n cp] W fun e w' => e = .returned (.int .i64 (rightE l)) ∧ Below W.heap.size W w') := fun W hb => by rw [← hln]; exact right9_any ad cp l W (HS.out W hb) (by omega)
  have HR : Hid (∀ W, Below w.heap.size w W → Calls Try.prog 8 #[.slice ad n cp] W fun e w' => e = .returned (.int .i64 (rightE l)) ∧ Below W.heap.size W w') := fun W hb => by rw [← hln]; exact right2_any ad cp l W (HS.out W hb) (by omega)
  have HE : Hid (rightE l = 0 → (n ≤ 100 ∧ (∀ c ∈ l, mayC c = true) ∧ ∀ c ∈ l, rt c.p c.f l ≤ 1000) ∧ rightE l = 0) := fun h => ⟨by rw [← hln]; exact rightE_ok.mp h, h⟩
  have HLn : Hid (l.length = n) := hln
  clear hln
  clear h htl
  generalize hE0 : rightE l = E at *
  go_enter Try.func5, Try.ntmps5
  go_wp2_with fail
  refine HA.mono ?_
  rintro e w1 ⟨rfl, hb1⟩
  have HB1 : Hid (Below w.heap.size w w1) := hb1
  clear hb1 HA
  go_wp2_with fail
  refine (HP.out _ HB1.out).mono ?_
  rintro e w2 ⟨rfl, hb2⟩
  have HB2 : Hid (Below w.heap.size w w2) := HB1.out.trans (hb2.mono HB1.out.size)
  clear hb2 HP HB1
  go_wp2_with fail
  refine (HR.out _ HB2.out).mono ?_
  rintro e w3 ⟨rfl, hb3⟩
  have HB3 : Hid (Below w.heap.size w w3) := HB2.out.trans (hb3.mono HB2.out.size)
  clear hb3 HR HB2
  by_cases hE : E = 0
  · obtain ⟨⟨hn2, hmm, _⟩, hr0⟩ := HE.out hE
    subst hE
    have HM : Hid ((∀ c ∈ l, mayC c = true) ∧ rightE l = 0) := ⟨hmm, hE0⟩
    clear hmm HE hr0 hE0
    by_cases hl0 : n = 0
    · have hl0' : (n : Int) = 0 := by omega
      go_wp2
      go_ret
      exact ⟨by simp, HB3.out⟩
    · by_cases hl1 : 100 ≤ n
      · have hl0' : ¬ (n : Int) = 0 := by omega
        have hl1' : (100 : Int) ≤ (n : Int) := by omega
        go_wp2
        go_ret
        exact ⟨by simp, HB3.out⟩
      · have hl0' : ¬ (n : Int) = 0 := by omega
        have hl1' : ¬ (100 : Int) ≤ (n : Int) := by omega
        have hbq : ((n : Int) == 0) = false := by rw [beq_eq_false_iff_ne]; omega
        obtain ⟨c0, l', hLl⟩ : ∃ c0 l', l = c0 :: l' := by cases l with | nil => (have := HLn.out; simp at this; omega) | cons a b => exact ⟨a, b, rfl⟩
        have hc0 : l[0]? = some c0 := by rw [hLl]; rfl
        have HL : Hid (l = c0 :: l') := hLl
        clear hLl
        obtain ⟨gL, offL, rfl, _⟩ : ∃ gL offL, ad = some ⟨gL, offL, none⟩ ∧ True := by
          obtain ⟨g, off, h1, _⟩ := (HS.out _ HB3.out).at hc0
          exact ⟨g, off, h1, trivial⟩
        have HNw : Hid (∀ (j : Nat) u, (l.flatMap ctL)[j]? = some u → w3.cell? ((⟨gL, offL, none⟩ : Addr).add j) = some u) := by
          rcases HS.out _ HB3.out with h0 | ⟨g, off, h1, h2⟩
          · rw [h0] at hc0; cases hc0
          · cases h1; exact cta_news h2
        have hb3s := HB3.out.size
        go_wp2_with (at_builtin; refine wpList_append_own_at _ rfl _ _ 22 rfl w.heap.size 33 i0 (.agg #[.int .i64 0, .int .i64 0, .int .i64 0, .int .i64 0]) 4 32 Try.underlying22 hi hz0 hz1 hz2 rfl (by decide) (.slice none 0 0) 0 [] rfl (World.ownsRow_nil _ _ _ _) ⟨gL, offL, none⟩ n cp (l.flatMap ctL) rfl (by rw [ctl_len, HLn.out]) HNw.out (ctl_one _) (by unfold maxLen; omega) (by omega) hb3s ?_)
        intro v4 w4 hown4 hgrow4 hif hat4
        clear hif
        have HO4 : Hid (COwn w4 w.heap.size v4 l) := by have := hown4; rw [← HLn.out] at this; exact this
        have HB4 : Hid (Below w.heap.size w w4) := HB3.out.grown hgrow4 hb3s (fun r hr => by cases hr)
        clear hown4 hgrow4 hat4 HNw
        obtain ⟨g4, cap4, hv4, hg4, hg4', hcap4⟩ := HO4.out.some (by rw [HLn.out]; omega)
        subst hv4
        rw [HLn.out] at hcap4
        rw [show Value.slice (some ⟨g4, 0, none⟩) l.length cap4 = Value.slice (some ⟨g4, 0, none⟩) n cap4 by rw [HLn.out]]
        have hc := ctl_get l 0 c0 hc0
        have hlen4 : 4 ≤ l.length * 4 := by rw [HLn.out]; omega
        have r0 : w4.cell? ⟨g4, 0, none⟩ = some (.int .i64 c0.p) := (World.ownsRow.cellAt HO4.out 0 (by omega)).trans hc.1
        have r1 : w4.cell? ⟨g4, 1, none⟩ = some (.int .i64 c0.f) := (World.ownsRow.cellAt HO4.out 1 (by omega)).trans hc.2.1
        have r2 : w4.cell? ⟨g4, 2, none⟩ = some (.int .i64 c0.t) := (World.ownsRow.cellAt HO4.out 2 (by omega)).trans hc.2.2.1
        have r3 : w4.cell? ⟨g4, 3, none⟩ = some (.int .i64 c0.r) := (World.ownsRow.cellAt HO4.out 3 (by omega)).trans hc.2.2.2
        have hmc := mayC_iff.mp (HM.out.1 c0 (List.mem_of_getElem? hc0))
        obtain ⟨cp0, cf, ct, cr⟩ := c0
        simp only at r0 r1 r2 r3 hmc
        have hf4 : w4.frozen? ⟨g4, 2, none⟩ = false := World.ownsRow.frozenAt HO4.out 2
        have HB5 : Hid (Below w.heap.size w (w4.alloc (.cells #[.int .i64 cp0, .int .i64 cf, .int .i64 ct, .int .i64 cr] 33))) := HB4.out.alloc HB4.out.size _
        clear hc hlen4 hc0
        have hn1 : (0 : Int) < (n : Int) := by omega
        have hw1 : IntKind.i64.wrap (cf + 1) = cf + 1 := by rw [IntKind.wrap_i64]; omega
        have hw2 : IntKind.i64.wrap (ct - cf) = ct - cf := by rw [IntKind.wrap_i64]; omega
        have hctf : ¬ ct - cf = 0 := by omega
        have hctf1 : ¬ ct - cf = -1 := by omega
        -- where it is cut
        by_cases hcut : 0 ≤ cut
        case' pos =>
          have htm : Int.tmod cut (ct - cf) = cut % (ct - cf) := Int.tmod_eq_emod_of_nonneg hcut
          have hm0 := Int.emod_nonneg cut (show ct - cf ≠ 0 by omega)
          have hm1 := Int.emod_lt_of_pos cut (show 0 < ct - cf by omega)
          generalize hem : cut % (ct - cf) = r at *
          have hw3 : IntKind.i64.wrap r = r := by rw [IntKind.wrap_i64]; omega
          have hw4 : IntKind.i64.wrap (cf + 1 + r) = cf + 1 + r := by rw [IntKind.wrap_i64]; omega
          obtain ⟨A, hA⟩ : ∃ A, cf + 1 + r = A := ⟨_, rfl⟩
          have hA1 : cf + 1 ≤ A ∧ A ≤ ct := by omega
          go_wp2_with fail
          go_region
          obtain ⟨W5, hW5⟩ : ∃ W5, (w4.alloc (.cells #[.int .i64 cp0, .int .i64 cf, .int .i64 ct, .int .i64 cr] 33)).drew = W5 := ⟨_, rfl⟩
          rw [hW5]
        case' neg =>
          obtain ⟨A, hA⟩ : ∃ A, cf + 1 = A := ⟨_, rfl⟩
          rw [hA] at hw1
          have hA1 : cf + 1 ≤ A ∧ A ≤ ct := by omega
          go_upto_region 12 with fail
          obtain ⟨W5, hW5⟩ : ∃ W5, (w4.alloc (.cells #[.int .i64 cp0, .int .i64 cf, .int .i64 ct, .int .i64 cr] 33)) = W5 := ⟨_, rfl⟩
          rw [hW5]
        all_goals (
          have hbl5 : Below w4.heap.size w4 W5 := by
            rw [← hW5]
            first | exact (Below.refl _ _).alloc (Nat.le_refl _) _ | exact ((Below.refl _ _).alloc (Nat.le_refl _) _).drew
          have s0 : W5.cell? ⟨w4.heap.size, 0, none⟩ = some (.int .i64 cp0) := by rw [← hW5]; simp
          have s1 : W5.cell? ⟨w4.heap.size, 1, none⟩ = some (.int .i64 cf) := by rw [← hW5]; simp
          have s2 : W5.cell? ⟨w4.heap.size, 2, none⟩ = some (.int .i64 ct) := by rw [← hW5]; simp
          have s3 : W5.cell? ⟨w4.heap.size, 3, none⟩ = some (.int .i64 cr) := by rw [← hW5]; simp
          have hB5l : w4.heap.size < W5.heap.size := by rw [← hW5]; simp
          have HO5 : Hid (COwn W5 w.heap.size (.slice (some ⟨g4, 0, none⟩) l.length cap4) l) := pl_own_below HO4.out hbl5
          have HB6 : Hid (Below w.heap.size w W5) := HB4.out.trans (hbl5.mono HB4.out.size)
          have q2 : W5.cell? ⟨g4, 2, none⟩ = some (.int .i64 ct) := pl_cell r2 hbl5
          have f5 : W5.frozen? ⟨g4, 2, none⟩ = false := World.ownsRow.frozenAt HO5.out 2
          have hne : g4 ≠ w4.heap.size := by omega
          have hne' : w4.heap.size ≠ g4 := by omega
          have hbs5 := HB6.out.size
          generalize w4.heap.size = B5 at *
          clear hW5 hbl5 r0 r1 r2 r3 hf4 HO4 HB4 HB5
          by_cases hAt : A < ct
          case' pos =>
            have t0 : (W5.setCell ⟨g4, 2, none⟩ (.int .i64 A)).cell? ⟨B5, 0, none⟩ = some (.int .i64 cp0) := (World.cell?_of_block (a := ⟨B5, 0, none⟩) (heap_setCell_other W5 ⟨g4, 2, none⟩ B5 _ (fun e => hne' e))).trans s0
            have t2 : (W5.setCell ⟨g4, 2, none⟩ (.int .i64 A)).cell? ⟨B5, 2, none⟩ = some (.int .i64 ct) := (World.cell?_of_block (a := ⟨B5, 2, none⟩) (heap_setCell_other W5 ⟨g4, 2, none⟩ B5 _ (fun e => hne' e))).trans s2
            have t3 : (W5.setCell ⟨g4, 2, none⟩ (.int .i64 A)).cell? ⟨B5, 3, none⟩ = some (.int .i64 cr) := (World.cell?_of_block (a := ⟨B5, 3, none⟩) (heap_setCell_other W5 ⟨g4, 2, none⟩ B5 _ (fun e => hne' e))).trans s3
            have HO6 : Hid ((W5.setCell ⟨g4, 2, none⟩ (.int .i64 A)).ownsRow w.heap.size 33 4 (.slice (some ⟨g4, 0, none⟩) n cap4) n (((⟨cp0, cf, A, cr⟩ :: l') : List Ct).flatMap ctL)) := by
              have h1 := (World.ownsRow.stored HO5.out 2 (.int .i64 A)).1
              rw [HLn.out, HL.out] at h1
              exact h1
            have HB7 : Hid (Below w.heap.size w (W5.setCell ⟨g4, 2, none⟩ (.int .i64 A))) := HB6.out.setCell hg4 _
            have hsz5 : (W5.setCell ⟨g4, 2, none⟩ (.int .i64 A)).heap.size = W5.heap.size := by simp [World.setCell]
            go_wp2_with (at_builtin; refine wpList_append_own_at _ rfl _ _ 22 rfl w.heap.size 33 i0 (.agg #[.int .i64 0, .int .i64 0, .int .i64 0, .int .i64 0]) 4 32 Try.underlying22 hi hz0 hz1 hz2 rfl (by decide) (.slice (some ⟨g4, 0, none⟩) n cap4) n (((⟨cp0, cf, A, cr⟩ :: l') : List Ct).flatMap ctL) rfl (World.ownsRow.alloc HO6.out _) ⟨W5.heap.size, 0, none⟩ 1 1 [.int .i64 cp0, .int .i64 A, .int .i64 ct, .int .i64 cr] rfl rfl (by have := four_new (W5.setCell ⟨g4, 2, none⟩ (.int .i64 A)) (.int .i64 cp0) (.int .i64 A) (.int .i64 ct) (.int .i64 cr) 33; rw [hsz5] at this; exact this) (by simp [Value.oneCell']) (by unfold maxLen; omega) (by omega) (by simp [World.setCell]; omega) ?_)
            intro vr W hown7 hgrow7 hif hat7
            clear hif
            obtain ⟨rl, hrl⟩ : ∃ rl : List Ct, ⟨cp0, cf, A, cr⟩ :: l' ++ [⟨cp0, A, ct, cr⟩] = rl := ⟨_, rfl⟩
            have HRow : Hid (COwn W w.heap.size vr rl) := by
              show World.ownsRow _ _ _ _ _ _ _
              rw [← hrl, List.flatMap_append, List.length_append]
              have : (⟨cp0, cf, A, cr⟩ :: l' : List Ct).length = n := by have := HLn.out; rw [HL.out] at this; simpa using this
              rw [this]
              exact hown7
            have HBW : Hid (Below w.heap.size w W) := (HB7.out.alloc HB7.out.size _).grown hgrow7 (by have := HB7.out.size; simp [World.setCell]; omega) (fun r hr => by cases hr; exact hg4)
            have hrn : 1 ≤ rl.length ∧ rl.length ≤ 100 := by have := HLn.out; rw [HL.out] at this; rw [← hrl]; simp at this ⊢; omega
            have HRt : Hid ((∀ p x, rt p x rl = rt p x l) ∧ (∀ c ∈ rl, mayC c = true)) := by
              have hml : ∀ c ∈ l', mayC c = true := fun c hc => HM.out.1 c (by rw [HL.out]; simp [hc])
              refine ⟨fun p x => by rw [← hrl, HL.out]; exact rt_split (f := cf) (at' := A) (t := ct) (by omega) (by omega), fun c hc => ?_⟩
              rw [← hrl] at hc
              simp at hc
              rcases hc with rfl | h | rfl
              · exact mayC_iff.mpr ⟨hmc.1, hmc.2.1, hmc.2.2.1, (by show cf < A; omega), (by show A ≤ 1099511627776; omega), hmc.2.2.2.2.2.1, hmc.2.2.2.2.2.2⟩
              · exact hml c h
              · exact mayC_iff.mpr ⟨hmc.1, hmc.2.1, (by show 0 ≤ A; omega), (by show A < ct; omega), (by show ct ≤ 1099511627776; omega), hmc.2.2.2.2.2.1, hmc.2.2.2.2.2.2⟩
            clear hown7 hgrow7 hat7 HB7 HO6 t0 t2 t3 hsz5 hrl
          case' neg =>
            go_upto_region 15 with fail
            obtain ⟨W, hW⟩ : ∃ W, W5 = W := ⟨_, rfl⟩
            obtain ⟨vr, hvr⟩ : ∃ vr, Value.slice (some ⟨g4, 0, none⟩) n cap4 = vr := ⟨_, rfl⟩
            obtain ⟨rl, hrl⟩ : ∃ rl : List Ct, l = rl := ⟨_, rfl⟩
            have HRow : Hid (COwn W w.heap.size vr rl) := by rw [← hW, ← hvr, ← hrl, ← HLn.out]; exact HO5.out
            have HBW : Hid (Below w.heap.size w W) := by rw [← hW]; exact HB6.out
            have hrn : 1 ≤ rl.length ∧ rl.length ≤ 100 := by rw [← hrl, HLn.out]; omega
            have HRt : Hid ((∀ p x, rt p x rl = rt p x l) ∧ (∀ c ∈ rl, mayC c = true)) := ⟨fun p x => by rw [← hrl], fun c hc => HM.out.1 c (by rw [hrl]; exact hc)⟩
            rw [hW, hvr]
            clear hW hvr hrl
          all_goals (
            clear s0 s1 s2 s3 q2 f5 HO5 HB6 HL hw1 hw2
            go_wp2_with fail
            go_loopg [16, 19, 20] 100 (fun gx q o i wr => ∃ (rl' ol : List Ct), i = .int .i64 ol.length ∧ rl'.length ≤ gx ∧ ol.length + rl'.length = rl.length ∧ Hid (Og wr w.heap.size w q o rl' ol rl))
            case atStart => exact ⟨rl, [], rfl, hrn.2, by simp, (⟨HRow.out, World.ownsRow_nil W w.heap.size 33 4, .inl rfl, HBW.out, List.Perm.refl _⟩ : Og W w.heap.size w vr (.slice none 0 0) rl [] rl)⟩
            case round =>
              obtain ⟨rl', ol, rfl, hgx, hlen, HG⟩ := hrel
              by_cases hr0 : rl'.length = 0
              · obtain ⟨a0, cap0, hq, _⟩ := HG.out.rest.shape
                have HG0 : Hid (ol.Perm rl) := by have := HG.out.perm; rw [List.eq_nil_of_length_eq_zero hr0, List.append_nil] at this; exact this
                obtain ⟨ao, co, ho, hcta⟩ := HG.out.other.shape
                have HB0 : Hid (Below w.heap.size w wr) := HG.out.bel
                rw [hr0] at hq
                have hol : ol.length ≤ 100 := by omega
                have HOl : Hid ((∀ p x, rt p x ol = rt p x l) ∧ (∀ c ∈ ol, mayC c = true)) := ⟨fun p x => (rt_perm HG0.out).trans (HRt.out.1 p x), fun c hc => HRt.out.2 c (HG0.out.mem_iff.mp hc)⟩
                have HOr : Hid (rightE ol = 0) := right_same HM.out.2 HOl.out.2 hol HOl.out.1
                subst hq
                subst ho
                have HCo : Hid (∀ W, Below wr.heap.size wr W → Cta W ao ol) := fun W hb => hcta.below hb
                have HX1 : Hid (∀ W, Below wr.heap.size wr W → Below w.heap.size w W) := fun W hb => HB0.out.trans (hb.mono HB0.out.size)
                have hcx := cn_bnd x
                have C1 : Calls Try.prog 7 #[.slice ao ol.length co] wr fun e w' => e = .returned (.int .i64 0) ∧ Below wr.heap.size wr w' := by have := right9_any ao co ol wr hcta (by omega); rw [HOr.out] at this; exact this
                have C2 : Hid (∀ W, Below w.heap.size w W → Calls Try.prog 11 #[.slice (some ⟨gL, offL, none⟩) n cp, .int .i64 p, .int .i64 x] W fun e w' => e = .returned (.int .i64 (rt p (cn x) l)) ∧ Below W.heap.size W w') := fun W hb => by have := rate9_any (some ⟨gL, offL, none⟩) cp l p x W (HS.out W hb) (by rw [HLn.out]; omega); rw [if_pos HM.out.2, HLn.out] at this; exact this
                have C3 : Hid (∀ W, Below wr.heap.size wr W → Calls Try.prog 11 #[.slice ao ol.length co, .int .i64 p, .int .i64 x] W fun e w' => e = .returned (.int .i64 (rt p (cn x) l)) ∧ Below W.heap.size W w') := fun W hb => by have := rate9_any ao co ol p x W (HCo.out W hb) (by omega); rw [if_pos HOr.out, HOl.out.1] at this; exact this
                have C4 : Hid (∀ W, Below w.heap.size w W → Calls Try.prog 12 #[.slice (some ⟨gL, offL, none⟩) n cp, .int .i64 p, .int .i64 x] W fun e w' => (∃ k, e = .returned (.int .i64 k) ∧ NxP p (cn x) l 0 k) ∧ Below W.heap.size W w') := fun W hb => by have := next9_any (some ⟨gL, offL, none⟩) cp l p x W (HS.out W hb) (by rw [HLn.out]; omega); rw [HM.out.2, HLn.out] at this; exact this
                have C5 : Hid (∀ W, Below wr.heap.size wr W → Calls Try.prog 12 #[.slice ao ol.length co, .int .i64 p, .int .i64 x] W fun e w' => (∃ k, e = .returned (.int .i64 k) ∧ NxP p (cn x) ol 0 k) ∧ Below W.heap.size W w') := fun W hb => by have := next9_any ao co ol p x W (HCo.out W hb) (by omega); rw [HOr.out] at this; exact this
                have C6 : Hid (∀ W, Below w.heap.size w W → Calls Try.prog 10 #[.slice (some ⟨gL, offL, none⟩) n cp, .int .i64 p, .int .i64 0, .int .i64 x] W fun e w' => e = .returned (.int .i64 (totV p 0 x l 0)) ∧ Below W.heap.size W w') := fun W hb => by have := total9_any (some ⟨gL, offL, none⟩) cp l p 0 x W (HS.out W hb) (by rw [HLn.out]; omega); rw [HM.out.2, HLn.out] at this; exact this
                have hteq : totV p 0 x ol 0 = totV p 0 x l 0 := by
                  unfold totV
                  by_cases h : cn 0 < cn x
                  · rw [if_pos ⟨rfl, h⟩, if_pos ⟨rfl, h⟩]
                    exact tot_eq' HOl.out.2 HM.out.1 (fun z => HOl.out.1 p z) (by omega)
                  · rw [if_neg (fun h' => h h'.2), if_neg (fun h' => h h'.2)]
                have C7 : Hid (∀ W, Below wr.heap.size wr W → Calls Try.prog 10 #[.slice ao ol.length co, .int .i64 p, .int .i64 0, .int .i64 x] W fun e w' => e = .returned (.int .i64 (totV p 0 x l 0)) ∧ Below W.heap.size W w') := fun W hb => by rw [← hteq]; have := total9_any ao co ol p 0 x W (HCo.out W hb) (by omega); rw [HOr.out] at this; exact this
                have C8 : Hid (∀ W, Below w.heap.size w W → Calls Try.prog 13 #[.slice (some ⟨gL, offL, none⟩) n cp, .int .i64 p, .int .i64 x, .int .i64 m] W fun e w' => (∃ k, e = .returned (.int .i64 k) ∧ WnP p (cn x) m l 0 k) ∧ Below W.heap.size W w') := fun W hb => by have := when9_any (some ⟨gL, offL, none⟩) cp l p x m W (HS.out W hb) (by rw [HLn.out]; omega) hm; rw [HM.out.2, HLn.out] at this; exact this
                have C9 : Hid (∀ W, Below wr.heap.size wr W → Calls Try.prog 13 #[.slice ao ol.length co, .int .i64 p, .int .i64 x, .int .i64 m] W fun e w' => (∃ k, e = .returned (.int .i64 k) ∧ WnP p (cn x) m ol 0 k) ∧ Below W.heap.size W w') := fun W hb => by have := when9_any ao co ol p x m W (HCo.out W hb) (by omega) hm; rw [HOr.out] at this; exact this
                have HU1 : Hid (∀ k k', NxP p (cn x) l 0 k → NxP p (cn x) ol 0 k' → k' = k) := fun k k' h1 h2 => NR.uniq (NR.congr (fun z => HOl.out.1 p z) (h2.2 rfl)) (h1.2 rfl)
                have HU2 : Hid (∀ k k', WnP p (cn x) m l 0 k → WnP p (cn x) m ol 0 k' → k' = k) := fun k k' h1 h2 => by
                  by_cases h : m < 1
                  · rw [(h1.2 rfl).1 h, (h2.2 rfl).1 h]
                  · exact WR.uniq HM.out.1 hcx.1 (WR.congr HOl.out.2 HM.out.1 hcx.2 (fun z => HOl.out.1 p z) ((h2.2 rfl).2 (by omega))) ((h1.2 rfl).2 (by omega))
                clear hcta HCo HOl HOr HG0 HG HS hteq HRt HM HRow HBW
                generalize totV p 0 x l 0 = T at *
                generalize rt p (cn x) l = R at *
                generalize ol.length = no at *
                go_wp2_with fail
                refine C1.mono ?_
                rintro e y1 ⟨rfl, k1⟩
                have D1 : Hid (Below wr.heap.size wr y1) := k1
                clear k1 C1
                go_wp2_with fail
                refine (C2.out _ (HX1.out _ D1.out)).mono ?_
                rintro e y2 ⟨rfl, k2⟩
                have D2 : Hid (Below wr.heap.size wr y2) := D1.out.trans (k2.mono D1.out.size)
                clear k2 C2 D1
                go_wp2_with fail
                refine (C3.out _ D2.out).mono ?_
                rintro e y3 ⟨rfl, k3⟩
                have D3 : Hid (Below wr.heap.size wr y3) := D2.out.trans (k3.mono D2.out.size)
                clear k3 C3 D2
                go_wp2_with fail
                refine (C4.out _ (HX1.out _ D3.out)).mono ?_
                rintro e y4 ⟨⟨n1, rfl, hn1'⟩, k4⟩
                have D4 : Hid (Below wr.heap.size wr y4) := D3.out.trans (k4.mono D3.out.size)
                have HN1 : Hid (NxP p (cn x) l 0 n1) := hn1'
                clear k4 C4 D3 hn1'
                go_wp2_with fail
                refine (C5.out _ D4.out).mono ?_
                rintro e y5 ⟨⟨n2, rfl, hn2'⟩, k5⟩
                have D5 : Hid (Below wr.heap.size wr y5) := D4.out.trans (k5.mono D4.out.size)
                obtain rfl := HU1.out _ _ HN1.out hn2'
                clear k5 C5 D4 hn2' HN1
                go_wp2_with fail
                refine (C6.out _ (HX1.out _ D5.out)).mono ?_
                rintro e y6 ⟨rfl, k6⟩
                have D6 : Hid (Below wr.heap.size wr y6) := D5.out.trans (k6.mono D5.out.size)
                clear k6 C6 D5
                go_wp2_with fail
                refine (C7.out _ D6.out).mono ?_
                rintro e y7 ⟨rfl, k7⟩
                have D7 : Hid (Below wr.heap.size wr y7) := D6.out.trans (k7.mono D6.out.size)
                clear k7 C7 D6
                go_wp2_with fail
                refine (C8.out _ (HX1.out _ D7.out)).mono ?_
                rintro e y8 ⟨⟨t1, rfl, ht1⟩, k8⟩
                have D8 : Hid (Below wr.heap.size wr y8) := D7.out.trans (k8.mono D7.out.size)
                have HT1 : Hid (WnP p (cn x) m l 0 t1) := ht1
                clear k8 C8 D7 ht1
                go_wp2_with fail
                refine (C9.out _ D8.out).mono ?_
                rintro e y9 ⟨⟨t2, rfl, ht2⟩, k9⟩
                have D9 : Hid (Below wr.heap.size wr y9) := D8.out.trans (k9.mono D8.out.size)
                obtain rfl := HU2.out _ _ HT1.out ht2
                have D10 : Hid (Below w.heap.size w y9) := HX1.out _ D9.out
                clear k9 C9 D8 ht2 HT1 D9
                go_wp2
                go_ret
                exact ⟨by simp, D10.out⟩
              · obtain ⟨g, cap, hv, hgb, hgl, hcap⟩ := HG.out.rest.some (by omega)
                have HRs : Hid (COwn wr w.heap.size (.slice (some ⟨g, 0, none⟩) rl'.length cap) rl') := by have := HG.out.rest; rw [hv] at this; exact this
                subst hv
                obtain ⟨N, hNl⟩ : ∃ N, rl'.length = N := ⟨_, rfl⟩
                have HNl : Hid (rl'.length = N) := hNl
                rw [hNl] at hgx hlen hr0 hcap HG ⊢
                clear hNl
                have hN0 : (0 : Int) < (N : Int) := by omega
                have hN1 : ¬ (N : Int) = 0 := by omega
                have hol : ol.length ≤ 100 := by omega
                by_cases hi1 : ol.length < tl.length
                · have hi1' : (ol.length : Int) < (tl.length : Int) := by omega
                  obtain ⟨tx, htx⟩ := pl_get tl ol.length hi1
                  have htc : ∃ gt offt, ta = some ⟨gt, offt, none⟩ ∧ wr.cell? ⟨gt, offt + ol.length, none⟩ = some (.int .i64 tx) := by
                    rcases HTl.out wr HG.out.bel with h0 | ⟨gt, offt, h1, h2⟩
                    · rw [h0] at htx; simp at htx
                    · exact ⟨gt, offt, h1, h2 _ _ htx⟩
                  obtain ⟨gt, offt, rfl, htc⟩ := htc
                  clear htx
                  by_cases htx0 : 0 ≤ tx
                  · have htm : Int.tmod tx (N : Int) = tx % (N : Int) := Int.tmod_eq_emod_of_nonneg htx0
                    have hm0 := Int.emod_nonneg tx (show (N : Int) ≠ 0 by omega)
                    have hm1 := Int.emod_lt_of_pos tx (show 0 < (N : Int) by omega)
                    obtain ⟨K, hK⟩ : ∃ K : Nat, tx % (N : Int) = (K : Int) := ⟨(tx % (N : Int)).toNat, by omega⟩
                    rw [hK] at htm hm0 hm1
                    have hKN : K < N := by omega
                    have hwK : IntKind.i64.wrap (K : Int) = (K : Int) := by rw [IntKind.wrap_i64]; omega
                    have hwK1 : IntKind.i64.wrap ((K : Int) + 1) = (K : Int) + 1 := by rw [IntKind.wrap_i64]; omega
                    have hK1 : (K : Int) ≤ (N : Int) := by omega
                    have hK2 : (K : Int) + 1 ≤ (N : Int) := by omega
                    have hK3 : (K : Int) ≤ (cap : Int) := by omega
                    have hK4 : (0 : Int) ≤ (K : Int) + 1 := by omega
                    clear hK
                    go_upto_region 22 with fail
                    have HGo : Hid (Og wr w.heap.size w (.slice (some ⟨g, 0, none⟩) N cap) u19 rl' ol rl) := HG
                    obtain ⟨c, hc⟩ := pl_get rl' K (by rw [HNl.out]; omega)
                    have hg4 := ctl_get rl' K c hc
                    have z0 : wr.cell? ⟨g, K * 4, none⟩ = some (.int .i64 c.p) := (World.ownsRow.cellAt HRs.out _ (by rw [HNl.out]; omega)).trans hg4.1
                    have z1 : wr.cell? ⟨g, K * 4 + 1, none⟩ = some (.int .i64 c.f) := (World.ownsRow.cellAt HRs.out _ (by rw [HNl.out]; omega)).trans hg4.2.1
                    have z2 : wr.cell? ⟨g, K * 4 + 2, none⟩ = some (.int .i64 c.t) := (World.ownsRow.cellAt HRs.out _ (by rw [HNl.out]; omega)).trans hg4.2.2.1
                    have z3 : wr.cell? ⟨g, K * 4 + 3, none⟩ = some (.int .i64 c.r) := (World.ownsRow.cellAt HRs.out _ (by rw [HNl.out]; omega)).trans hg4.2.2.2
                    have HC : Hid (rl'[K]? = some c) := hc
                    have HCe : Hid (ctL c = [.int .i64 c.p, .int .i64 c.f, .int .i64 c.t, .int .i64 c.r]) := rfl
                    clear hc hg4
                    generalize c.p = x0 at *
                    generalize c.f = x1 at *
                    generalize c.t = x2 at *
                    generalize c.r = x3 at *
                    have HOt : Hid (wr.ownsRow w.heap.size 33 4 u19 ol.length (ol.flatMap ctL)) := HGo.out.other
                    have hbw := HGo.out.bel.size
                    go_wp2_with (at_builtin; refine wpList_append_own_at _ rfl _ _ 22 rfl w.heap.size 33 i0 (.agg #[.int .i64 0, .int .i64 0, .int .i64 0, .int .i64 0]) 4 32 Try.underlying22 hi hz0 hz1 hz2 rfl (by decide) u19 ol.length (ol.flatMap ctL) rfl (World.ownsRow.alloc HOt.out _) ⟨wr.heap.size, 0, none⟩ 1 1 [.int .i64 x0, .int .i64 x1, .int .i64 x2, .int .i64 x3] rfl rfl (four_new _ _ _ _ _ _) (by simp [Value.oneCell']) (by unfold maxLen; omega) (by omega) (by simp; omega) ?_)
                    intro vo w6 hown6 hgrow6 hif hat6
                    clear hif
                    rw [← HCe.out] at hown6
                    have hst := og_one HGo.out hown6 hgrow6 hat6 hbw
                    have HR6 : Hid (COwn w6 w.heap.size (.slice (some ⟨g, 0, none⟩) rl'.length cap) rl') := by rw [HNl.out]; exact hst.1
                    have HT6 : Hid (COwn w6 w.heap.size vo (ol ++ [c]) ∧ Below w.heap.size w w6 ∧ w.heap.size ≤ w6.heap.size) := ⟨hst.2.1, hst.2.2.2.1, hst.2.2.2.2⟩
                    have hs6 := hst.2.2.2.2
                    have hp0 := own_part HR6.out 0 K (by rw [HNl.out]; omega)
                    simp only [List.drop_zero, Nat.zero_mul] at hp0
                    have HP0 : Hid (∀ (j : Nat) u, ((rl'.take K).flatMap ctL)[j]? = some u → w6.cell? ((⟨g, 0, none⟩ : Addr).add j) = some u) := hp0
                    clear hown6 hgrow6 hat6 hst hp0 z0 z1 z2 z3 HOt HRs
                    go_wp2_with (at_builtin; refine wpList_append_own_at _ rfl _ _ 22 rfl w.heap.size 33 i0 (.agg #[.int .i64 0, .int .i64 0, .int .i64 0, .int .i64 0]) 4 32 Try.underlying22 hi hz0 hz1 hz2 rfl (by decide) (.slice none 0 0) 0 [] rfl (World.ownsRow_nil _ _ _ _) ⟨g, 0, none⟩ K cap ((rl'.take K).flatMap ctL) rfl (by rw [ctl_len, List.length_take, HNl.out]; omega) HP0.out (ctl_one _) (by unfold maxLen; omega) (by omega) hs6 ?_)
                    intro vl w7 hown7 hgrow7 hif hat7
                    clear hif
                    have hb7 : Below w6.heap.size w6 w7 := ⟨hgrow7.os, hgrow7.tape, hgrow7.output, hgrow7.size, fun k hk => hgrow7.block k hk (by simp [Value.ownBlock])⟩
                    have HR7 : Hid (COwn w7 w.heap.size (.slice (some ⟨g, 0, none⟩) rl'.length cap) rl') := pl_own_below HR6.out hb7
                    have H7 : Hid (w7.ownsRow w.heap.size 33 4 vl K ((rl'.take K).flatMap ctL) ∧ w6.grownBy w7 none ∧ (vl.ownBlock = none ∨ vl.ownBlock = some w6.heap.size)) := ⟨by simpa using hown7, hgrow7, by simpa [Value.ownBlock] using hat7⟩
                    have hp1 := own_part HR7.out (K + 1) (N - (K + 1)) (by rw [HNl.out]; omega)
                    rw [List.take_of_length_le (by rw [List.length_drop, HNl.out]; omega)] at hp1
                    have HP1 : Hid (∀ (j : Nat) u, ((rl'.drop (K + 1)).flatMap ctL)[j]? = some u → w7.cell? ((⟨g, (K + 1) * 4, none⟩ : Addr).add j) = some u) := hp1
                    have hs7 : w.heap.size ≤ w7.heap.size := Nat.le_trans hs6 hb7.size
                    have HV7 : Hid (w7.ownsRow w.heap.size 33 4 vl K ((rl'.take K).flatMap ctL)) := H7.out.1
                    clear hown7 hgrow7 hat7 hb7 hp1 HP0 HR6 HR7
                    have hfin : ∀ (v8 : Value) (w8 : World), w8.ownsRow w.heap.size 33 4 v8 (K + (N - (K + 1))) ((rl'.take K).flatMap ctL ++ (rl'.drop (K + 1)).flatMap ctL) → w7.grownBy w8 vl.ownBlock → (v8.ownBlock = vl.ownBlock ∨ v8.ownBlock = some w7.heap.size) → Og w8 w.heap.size w v8 vo (rl'.take K ++ rl'.drop (K + 1)) (ol ++ [c]) rl := fun v8 w8 k1 k2 k3 => og_two HGo.out.perm HC.out HT6.out.2.1 HT6.out.2.2 HT6.out.1 H7.out.1 H7.out.2.1 H7.out.2.2 k1 k2 k3 HNl.out hKN
                    have HFin : Hid (∀ (v8 : Value) (w8 : World), w8.ownsRow w.heap.size 33 4 v8 (K + (N - (K + 1))) ((rl'.take K).flatMap ctL ++ (rl'.drop (K + 1)).flatMap ctL) → w7.grownBy w8 vl.ownBlock → (v8.ownBlock = vl.ownBlock ∨ v8.ownBlock = some w7.heap.size) → Og w8 w.heap.size w v8 vo (rl'.take K ++ rl'.drop (K + 1)) (ol ++ [c]) rl) := hfin
                    have HLd : Hid (((rl'.drop (K + 1)).flatMap ctL).length = (N - (K + 1)) * 4 ∧ (rl'.take K ++ rl'.drop (K + 1)).length = N - 1) := ⟨by rw [ctl_len, List.length_drop, HNl.out], by rw [List.length_append, List.length_take, List.length_drop, HNl.out]; omega⟩
                    clear hfin
                    by_cases hcK : cap = K + 1
                    · have hNK : N = K + 1 := by omega
                      have HDr : Hid (rl'.drop (K + 1) = []) := List.drop_of_length_le (by rw [HNl.out]; omega)
                      subst hcK
                      subst hNK
                      go_wp2_with (at_builtin; refine wpList_append_own_at _ rfl _ _ 22 rfl w.heap.size 33 i0 (.agg #[.int .i64 0, .int .i64 0, .int .i64 0, .int .i64 0]) 4 32 Try.underlying22 hi hz0 hz1 hz2 rfl (by decide) vl K ((rl'.take K).flatMap ctL) rfl HV7.out ⟨g, 0, none⟩ 0 0 [] (by first | rfl | simp [Act.eval]) rfl (fun j u hj => by simp at hj) (by simp) (by unfold maxLen; omega) (by omega) hs7 ?_)
                      intro v8 w8 hown8 hgrow8 hif hat8
                      clear hif
                      have HG8 : Hid (Og w8 w.heap.size w v8 vo (rl'.take K ++ rl'.drop (K + 1)) (ol ++ [c]) rl) := HFin.out v8 w8 (by rw [HDr.out]; simpa using hown8) hgrow8 hat8
                      clear hown8 hgrow8 hat8 HFin HV7 H7 HP1
                      go_wp2
                      go_roundg K
                      case measure => omega
                      case rel => exact ⟨rl'.take K ++ rl'.drop (K + 1), ol ++ [c], by rw [List.length_append]; simp, by rw [HLd.out.2]; omega, by rw [HLd.out.2, List.length_append]; simp; omega, HG8⟩
                    · go_wp2_with (at_builtin; refine wpList_append_own_at _ rfl _ _ 22 rfl w.heap.size 33 i0 (.agg #[.int .i64 0, .int .i64 0, .int .i64 0, .int .i64 0]) 4 32 Try.underlying22 hi hz0 hz1 hz2 rfl (by decide) vl K ((rl'.take K).flatMap ctL) rfl HV7.out ⟨g, (K + 1) * 4, none⟩ (N - (K + 1)) (cap - (K + 1)) ((rl'.drop (K + 1)).flatMap ctL) (by first | rfl | simp [Act.eval]) HLd.out.1 HP1.out (ctl_one _) (by unfold maxLen; omega) (by omega) hs7 ?_)
                      intro v8 w8 hown8 hgrow8 hif hat8
                      clear hif
                      have HG8 : Hid (Og w8 w.heap.size w v8 vo (rl'.take K ++ rl'.drop (K + 1)) (ol ++ [c]) rl) := HFin.out v8 w8 (by simpa using hown8) hgrow8 hat8
                      clear hown8 hgrow8 hat8 HFin HV7 H7 HP1
                      go_wp2
                      go_roundg (N - 1)
                      case measure => omega
                      case rel => exact ⟨rl'.take K ++ rl'.drop (K + 1), ol ++ [c], by rw [List.length_append]; simp, by rw [HLd.out.2]; exact Nat.le_refl _, by rw [HLd.out.2, List.length_append]; simp; omega, HG8⟩
                  · have hKN : 0 < N := by omega
                    go_upto_region 22 with fail
                    have HGo : Hid (Og wr w.heap.size w (.slice (some ⟨g, 0, none⟩) N cap) u19 rl' ol rl) := HG
                    obtain ⟨c, hc⟩ := pl_get rl' 0 (by rw [HNl.out]; omega)
                    have hg4 := ctl_get rl' 0 c hc
                    have z0 : wr.cell? ⟨g, 0 * 4, none⟩ = some (.int .i64 c.p) := (World.ownsRow.cellAt HRs.out _ (by rw [HNl.out]; omega)).trans hg4.1
                    have z1 : wr.cell? ⟨g, 0 * 4 + 1, none⟩ = some (.int .i64 c.f) := (World.ownsRow.cellAt HRs.out _ (by rw [HNl.out]; omega)).trans hg4.2.1
                    have z2 : wr.cell? ⟨g, 0 * 4 + 2, none⟩ = some (.int .i64 c.t) := (World.ownsRow.cellAt HRs.out _ (by rw [HNl.out]; omega)).trans hg4.2.2.1
                    have z3 : wr.cell? ⟨g, 0 * 4 + 3, none⟩ = some (.int .i64 c.r) := (World.ownsRow.cellAt HRs.out _ (by rw [HNl.out]; omega)).trans hg4.2.2.2
                    have HC : Hid (rl'[0]? = some c) := hc
                    have HCe : Hid (ctL c = [.int .i64 c.p, .int .i64 c.f, .int .i64 c.t, .int .i64 c.r]) := rfl
                    clear hc hg4
                    generalize c.p = x0 at *
                    generalize c.f = x1 at *
                    generalize c.t = x2 at *
                    generalize c.r = x3 at *
                    have HOt : Hid (wr.ownsRow w.heap.size 33 4 u19 ol.length (ol.flatMap ctL)) := HGo.out.other
                    have hbw := HGo.out.bel.size
                    go_wp2_with (at_builtin; refine wpList_append_own_at _ rfl _ _ 22 rfl w.heap.size 33 i0 (.agg #[.int .i64 0, .int .i64 0, .int .i64 0, .int .i64 0]) 4 32 Try.underlying22 hi hz0 hz1 hz2 rfl (by decide) u19 ol.length (ol.flatMap ctL) rfl (World.ownsRow.alloc HOt.out _) ⟨wr.heap.size, 0, none⟩ 1 1 [.int .i64 x0, .int .i64 x1, .int .i64 x2, .int .i64 x3] rfl rfl (four_new _ _ _ _ _ _) (by simp [Value.oneCell']) (by unfold maxLen; omega) (by omega) (by simp; omega) ?_)
                    intro vo w6 hown6 hgrow6 hif hat6
                    clear hif
                    rw [← HCe.out] at hown6
                    have hst := og_one HGo.out hown6 hgrow6 hat6 hbw
                    have HR6 : Hid (COwn w6 w.heap.size (.slice (some ⟨g, 0, none⟩) rl'.length cap) rl') := by rw [HNl.out]; exact hst.1
                    have HT6 : Hid (COwn w6 w.heap.size vo (ol ++ [c]) ∧ Below w.heap.size w w6 ∧ w.heap.size ≤ w6.heap.size) := ⟨hst.2.1, hst.2.2.2.1, hst.2.2.2.2⟩
                    have hs6 := hst.2.2.2.2
                    have hp0 := own_part HR6.out 0 0 (by rw [HNl.out]; omega)
                    simp only [List.drop_zero, Nat.zero_mul] at hp0
                    have HP0 : Hid (∀ (j : Nat) u, ((rl'.take 0).flatMap ctL)[j]? = some u → w6.cell? ((⟨g, 0, none⟩ : Addr).add j) = some u) := hp0
                    clear hown6 hgrow6 hat6 hst hp0 z0 z1 z2 z3 HOt HRs
                    go_wp2_with (at_builtin; refine wpList_append_own_at _ rfl _ _ 22 rfl w.heap.size 33 i0 (.agg #[.int .i64 0, .int .i64 0, .int .i64 0, .int .i64 0]) 4 32 Try.underlying22 hi hz0 hz1 hz2 rfl (by decide) (.slice none 0 0) 0 [] rfl (World.ownsRow_nil _ _ _ _) ⟨g, 0, none⟩ 0 cap ((rl'.take 0).flatMap ctL) rfl (by rw [ctl_len, List.length_take, HNl.out]; omega) HP0.out (ctl_one _) (by unfold maxLen; omega) (by omega) hs6 ?_)
                    intro vl w7 hown7 hgrow7 hif hat7
                    clear hif
                    have hb7 : Below w6.heap.size w6 w7 := ⟨hgrow7.os, hgrow7.tape, hgrow7.output, hgrow7.size, fun k hk => hgrow7.block k hk (by simp [Value.ownBlock])⟩
                    have HR7 : Hid (COwn w7 w.heap.size (.slice (some ⟨g, 0, none⟩) rl'.length cap) rl') := pl_own_below HR6.out hb7
                    have H7 : Hid (w7.ownsRow w.heap.size 33 4 vl 0 ((rl'.take 0).flatMap ctL) ∧ w6.grownBy w7 none ∧ (vl.ownBlock = none ∨ vl.ownBlock = some w6.heap.size)) := ⟨by simpa using hown7, hgrow7, by simpa [Value.ownBlock] using hat7⟩
                    have hp1 := own_part HR7.out (0 + 1) (N - (0 + 1)) (by rw [HNl.out]; omega)
                    rw [List.take_of_length_le (by rw [List.length_drop, HNl.out]; omega)] at hp1
                    have HP1 : Hid (∀ (j : Nat) u, ((rl'.drop (0 + 1)).flatMap ctL)[j]? = some u → w7.cell? ((⟨g, (0 + 1) * 4, none⟩ : Addr).add j) = some u) := hp1
                    have hs7 : w.heap.size ≤ w7.heap.size := Nat.le_trans hs6 hb7.size
                    have HV7 : Hid (w7.ownsRow w.heap.size 33 4 vl 0 ((rl'.take 0).flatMap ctL)) := H7.out.1
                    clear hown7 hgrow7 hat7 hb7 hp1 HP0 HR6 HR7
                    have hfin : ∀ (v8 : Value) (w8 : World), w8.ownsRow w.heap.size 33 4 v8 (0 + (N - (0 + 1))) ((rl'.take 0).flatMap ctL ++ (rl'.drop (0 + 1)).flatMap ctL) → w7.grownBy w8 vl.ownBlock → (v8.ownBlock = vl.ownBlock ∨ v8.ownBlock = some w7.heap.size) → Og w8 w.heap.size w v8 vo (rl'.take 0 ++ rl'.drop (0 + 1)) (ol ++ [c]) rl := fun v8 w8 k1 k2 k3 => og_two HGo.out.perm HC.out HT6.out.2.1 HT6.out.2.2 HT6.out.1 H7.out.1 H7.out.2.1 H7.out.2.2 k1 k2 k3 HNl.out hKN
                    have HFin : Hid (∀ (v8 : Value) (w8 : World), w8.ownsRow w.heap.size 33 4 v8 (0 + (N - (0 + 1))) ((rl'.take 0).flatMap ctL ++ (rl'.drop (0 + 1)).flatMap ctL) → w7.grownBy w8 vl.ownBlock → (v8.ownBlock = vl.ownBlock ∨ v8.ownBlock = some w7.heap.size) → Og w8 w.heap.size w v8 vo (rl'.take 0 ++ rl'.drop (0 + 1)) (ol ++ [c]) rl) := hfin
                    have HLd : Hid (((rl'.drop (0 + 1)).flatMap ctL).length = (N - (0 + 1)) * 4 ∧ (rl'.take 0 ++ rl'.drop (0 + 1)).length = N - 1) := ⟨by rw [ctl_len, List.length_drop, HNl.out], by rw [List.length_append, List.length_take, List.length_drop, HNl.out]; omega⟩
                    clear hfin
                    by_cases hcK : cap = 0 + 1
                    · have hNK : N = 0 + 1 := by omega
                      have HDr : Hid (rl'.drop (0 + 1) = []) := List.drop_of_length_le (by rw [HNl.out]; omega)
                      subst hcK
                      subst hNK
                      go_wp2_with (at_builtin; refine wpList_append_own_at _ rfl _ _ 22 rfl w.heap.size 33 i0 (.agg #[.int .i64 0, .int .i64 0, .int .i64 0, .int .i64 0]) 4 32 Try.underlying22 hi hz0 hz1 hz2 rfl (by decide) vl 0 ((rl'.take 0).flatMap ctL) rfl HV7.out ⟨g, 0, none⟩ 0 0 [] (by first | rfl | simp [Act.eval]) rfl (fun j u hj => by simp at hj) (by simp) (by unfold maxLen; omega) (by omega) hs7 ?_)
                      intro v8 w8 hown8 hgrow8 hif hat8
                      clear hif
                      have HG8 : Hid (Og w8 w.heap.size w v8 vo (rl'.take 0 ++ rl'.drop (0 + 1)) (ol ++ [c]) rl) := HFin.out v8 w8 (by rw [HDr.out]; simpa using hown8) hgrow8 hat8
                      clear hown8 hgrow8 hat8 HFin HV7 H7 HP1
                      go_wp2
                      go_roundg 0
                      case measure => omega
                      case rel => exact ⟨rl'.take 0 ++ rl'.drop (0 + 1), ol ++ [c], by rw [List.length_append]; simp, by rw [HLd.out.2]; omega, by rw [HLd.out.2, List.length_append]; simp; omega, HG8⟩
                    · go_wp2_with (at_builtin; refine wpList_append_own_at _ rfl _ _ 22 rfl w.heap.size 33 i0 (.agg #[.int .i64 0, .int .i64 0, .int .i64 0, .int .i64 0]) 4 32 Try.underlying22 hi hz0 hz1 hz2 rfl (by decide) vl 0 ((rl'.take 0).flatMap ctL) rfl HV7.out ⟨g, (0 + 1) * 4, none⟩ (N - (0 + 1)) (cap - (0 + 1)) ((rl'.drop (0 + 1)).flatMap ctL) (by first | rfl | simp [Act.eval]) HLd.out.1 HP1.out (ctl_one _) (by unfold maxLen; omega) (by omega) hs7 ?_)
                      intro v8 w8 hown8 hgrow8 hif hat8
                      clear hif
                      have HG8 : Hid (Og w8 w.heap.size w v8 vo (rl'.take 0 ++ rl'.drop (0 + 1)) (ol ++ [c]) rl) := HFin.out v8 w8 (by simpa using hown8) hgrow8 hat8
                      clear hown8 hgrow8 hat8 HFin HV7 H7 HP1
                      go_wp2
                      go_roundg (N - 1)
                      case measure => omega
                      case rel => exact ⟨rl'.take 0 ++ rl'.drop (0 + 1), ol ++ [c], by rw [List.length_append]; simp, by rw [HLd.out.2]; exact Nat.le_refl _, by rw [HLd.out.2, List.length_append]; simp; omega, HG8⟩
                · have hi1' : ¬ (ol.length : Int) < (tl.length : Int) := by omega
                  have hKN : 0 < N := by omega
                  go_upto_region 22 with fail
                  have HGo : Hid (Og wr w.heap.size w (.slice (some ⟨g, 0, none⟩) N cap) u19 rl' ol rl) := HG
                  obtain ⟨c, hc⟩ := pl_get rl' 0 (by rw [HNl.out]; omega)
                  have hg4 := ctl_get rl' 0 c hc
                  have z0 : wr.cell? ⟨g, 0 * 4, none⟩ = some (.int .i64 c.p) := (World.ownsRow.cellAt HRs.out _ (by rw [HNl.out]; omega)).trans hg4.1
                  have z1 : wr.cell? ⟨g, 0 * 4 + 1, none⟩ = some (.int .i64 c.f) := (World.ownsRow.cellAt HRs.out _ (by rw [HNl.out]; omega)).trans hg4.2.1
                  have z2 : wr.cell? ⟨g, 0 * 4 + 2, none⟩ = some (.int .i64 c.t) := (World.ownsRow.cellAt HRs.out _ (by rw [HNl.out]; omega)).trans hg4.2.2.1
                  have z3 : wr.cell? ⟨g, 0 * 4 + 3, none⟩ = some (.int .i64 c.r) := (World.ownsRow.cellAt HRs.out _ (by rw [HNl.out]; omega)).trans hg4.2.2.2
                  have HC : Hid (rl'[0]? = some c) := hc
                  have HCe : Hid (ctL c = [.int .i64 c.p, .int .i64 c.f, .int .i64 c.t, .int .i64 c.r]) := rfl
                  clear hc hg4
                  generalize c.p = x0 at *
                  generalize c.f = x1 at *
                  generalize c.t = x2 at *
                  generalize c.r = x3 at *
                  have HOt : Hid (wr.ownsRow w.heap.size 33 4 u19 ol.length (ol.flatMap ctL)) := HGo.out.other
                  have hbw := HGo.out.bel.size
                  go_wp2_with (at_builtin; refine wpList_append_own_at _ rfl _ _ 22 rfl w.heap.size 33 i0 (.agg #[.int .i64 0, .int .i64 0, .int .i64 0, .int .i64 0]) 4 32 Try.underlying22 hi hz0 hz1 hz2 rfl (by decide) u19 ol.length (ol.flatMap ctL) rfl (World.ownsRow.alloc HOt.out _) ⟨wr.heap.size, 0, none⟩ 1 1 [.int .i64 x0, .int .i64 x1, .int .i64 x2, .int .i64 x3] rfl rfl (four_new _ _ _ _ _ _) (by simp [Value.oneCell']) (by unfold maxLen; omega) (by omega) (by simp; omega) ?_)
                  intro vo w6 hown6 hgrow6 hif hat6
                  clear hif
                  rw [← HCe.out] at hown6
                  have hst := og_one HGo.out hown6 hgrow6 hat6 hbw
                  have HR6 : Hid (COwn w6 w.heap.size (.slice (some ⟨g, 0, none⟩) rl'.length cap) rl') := by rw [HNl.out]; exact hst.1
                  have HT6 : Hid (COwn w6 w.heap.size vo (ol ++ [c]) ∧ Below w.heap.size w w6 ∧ w.heap.size ≤ w6.heap.size) := ⟨hst.2.1, hst.2.2.2.1, hst.2.2.2.2⟩
                  have hs6 := hst.2.2.2.2
                  have hp0 := own_part HR6.out 0 0 (by rw [HNl.out]; omega)
                  simp only [List.drop_zero, Nat.zero_mul] at hp0
                  have HP0 : Hid (∀ (j : Nat) u, ((rl'.take 0).flatMap ctL)[j]? = some u → w6.cell? ((⟨g, 0, none⟩ : Addr).add j) = some u) := hp0
                  clear hown6 hgrow6 hat6 hst hp0 z0 z1 z2 z3 HOt HRs
                  go_wp2_with (at_builtin; refine wpList_append_own_at _ rfl _ _ 22 rfl w.heap.size 33 i0 (.agg #[.int .i64 0, .int .i64 0, .int .i64 0, .int .i64 0]) 4 32 Try.underlying22 hi hz0 hz1 hz2 rfl (by decide) (.slice none 0 0) 0 [] rfl (World.ownsRow_nil _ _ _ _) ⟨g, 0, none⟩ 0 cap ((rl'.take 0).flatMap ctL) rfl (by rw [ctl_len, List.length_take, HNl.out]; omega) HP0.out (ctl_one _) (by unfold maxLen; omega) (by omega) hs6 ?_)
                  intro vl w7 hown7 hgrow7 hif hat7
                  clear hif
                  have hb7 : Below w6.heap.size w6 w7 := ⟨hgrow7.os, hgrow7.tape, hgrow7.output, hgrow7.size, fun k hk => hgrow7.block k hk (by simp [Value.ownBlock])⟩
                  have HR7 : Hid (COwn w7 w.heap.size (.slice (some ⟨g, 0, none⟩) rl'.length cap) rl') := pl_own_below HR6.out hb7
                  have H7 : Hid (w7.ownsRow w.heap.size 33 4 vl 0 ((rl'.take 0).flatMap ctL) ∧ w6.grownBy w7 none ∧ (vl.ownBlock = none ∨ vl.ownBlock = some w6.heap.size)) := ⟨by simpa using hown7, hgrow7, by simpa [Value.ownBlock] using hat7⟩
                  have hp1 := own_part HR7.out (0 + 1) (N - (0 + 1)) (by rw [HNl.out]; omega)
                  rw [List.take_of_length_le (by rw [List.length_drop, HNl.out]; omega)] at hp1
                  have HP1 : Hid (∀ (j : Nat) u, ((rl'.drop (0 + 1)).flatMap ctL)[j]? = some u → w7.cell? ((⟨g, (0 + 1) * 4, none⟩ : Addr).add j) = some u) := hp1
                  have hs7 : w.heap.size ≤ w7.heap.size := Nat.le_trans hs6 hb7.size
                  have HV7 : Hid (w7.ownsRow w.heap.size 33 4 vl 0 ((rl'.take 0).flatMap ctL)) := H7.out.1
                  clear hown7 hgrow7 hat7 hb7 hp1 HP0 HR6 HR7
                  have hfin : ∀ (v8 : Value) (w8 : World), w8.ownsRow w.heap.size 33 4 v8 (0 + (N - (0 + 1))) ((rl'.take 0).flatMap ctL ++ (rl'.drop (0 + 1)).flatMap ctL) → w7.grownBy w8 vl.ownBlock → (v8.ownBlock = vl.ownBlock ∨ v8.ownBlock = some w7.heap.size) → Og w8 w.heap.size w v8 vo (rl'.take 0 ++ rl'.drop (0 + 1)) (ol ++ [c]) rl := fun v8 w8 k1 k2 k3 => og_two HGo.out.perm HC.out HT6.out.2.1 HT6.out.2.2 HT6.out.1 H7.out.1 H7.out.2.1 H7.out.2.2 k1 k2 k3 HNl.out hKN
                  have HFin : Hid (∀ (v8 : Value) (w8 : World), w8.ownsRow w.heap.size 33 4 v8 (0 + (N - (0 + 1))) ((rl'.take 0).flatMap ctL ++ (rl'.drop (0 + 1)).flatMap ctL) → w7.grownBy w8 vl.ownBlock → (v8.ownBlock = vl.ownBlock ∨ v8.ownBlock = some w7.heap.size) → Og w8 w.heap.size w v8 vo (rl'.take 0 ++ rl'.drop (0 + 1)) (ol ++ [c]) rl) := hfin
                  have HLd : Hid (((rl'.drop (0 + 1)).flatMap ctL).length = (N - (0 + 1)) * 4 ∧ (rl'.take 0 ++ rl'.drop (0 + 1)).length = N - 1) := ⟨by rw [ctl_len, List.length_drop, HNl.out], by rw [List.length_append, List.length_take, List.length_drop, HNl.out]; omega⟩
                  clear hfin
                  by_cases hcK : cap = 0 + 1
                  · have hNK : N = 0 + 1 := by omega
                    have HDr : Hid (rl'.drop (0 + 1) = []) := List.drop_of_length_le (by rw [HNl.out]; omega)
                    subst hcK
                    subst hNK
                    go_wp2_with (at_builtin; refine wpList_append_own_at _ rfl _ _ 22 rfl w.heap.size 33 i0 (.agg #[.int .i64 0, .int .i64 0, .int .i64 0, .int .i64 0]) 4 32 Try.underlying22 hi hz0 hz1 hz2 rfl (by decide) vl 0 ((rl'.take 0).flatMap ctL) rfl HV7.out ⟨g, 0, none⟩ 0 0 [] (by first | rfl | simp [Act.eval]) rfl (fun j u hj => by simp at hj) (by simp) (by unfold maxLen; omega) (by omega) hs7 ?_)
                    intro v8 w8 hown8 hgrow8 hif hat8
                    clear hif
                    have HG8 : Hid (Og w8 w.heap.size w v8 vo (rl'.take 0 ++ rl'.drop (0 + 1)) (ol ++ [c]) rl) := HFin.out v8 w8 (by rw [HDr.out]; simpa using hown8) hgrow8 hat8
                    clear hown8 hgrow8 hat8 HFin HV7 H7 HP1
                    go_wp2
                    go_roundg 0
                    case measure => omega
                    case rel => exact ⟨rl'.take 0 ++ rl'.drop (0 + 1), ol ++ [c], by rw [List.length_append]; simp, by rw [HLd.out.2]; omega, by rw [HLd.out.2, List.length_append]; simp; omega, HG8⟩
                  · go_wp2_with (at_builtin; refine wpList_append_own_at _ rfl _ _ 22 rfl w.heap.size 33 i0 (.agg #[.int .i64 0, .int .i64 0, .int .i64 0, .int .i64 0]) 4 32 Try.underlying22 hi hz0 hz1 hz2 rfl (by decide) vl 0 ((rl'.take 0).flatMap ctL) rfl HV7.out ⟨g, (0 + 1) * 4, none⟩ (N - (0 + 1)) (cap - (0 + 1)) ((rl'.drop (0 + 1)).flatMap ctL) (by first | rfl | simp [Act.eval]) HLd.out.1 HP1.out (ctl_one _) (by unfold maxLen; omega) (by omega) hs7 ?_)
                    intro v8 w8 hown8 hgrow8 hif hat8
                    clear hif
                    have HG8 : Hid (Og w8 w.heap.size w v8 vo (rl'.take 0 ++ rl'.drop (0 + 1)) (ol ++ [c]) rl) := HFin.out v8 w8 (by simpa using hown8) hgrow8 hat8
                    clear hown8 hgrow8 hat8 HFin HV7 H7 HP1
                    go_wp2
                    go_roundg (N - 1)
                    case measure => omega
                    case rel => exact ⟨rl'.take 0 ++ rl'.drop (0 + 1), ol ++ [c], by rw [List.length_append]; simp, by rw [HLd.out.2]; exact Nat.le_refl _, by rw [HLd.out.2, List.length_append]; simp; omega, HG8⟩))
  · go_wp2
    go_ret
    exact ⟨by simp, HB3.out⟩

end Go.Proofs.Ytjolflpmeodnaai
