import Derived.Test.YtjolflpmeodnaahPlLt
namespace Go.Proofs.Ytjolflpmeodnaah
set_option linter.unusedVariables false
open Go.RowKit

theorem ctl_set1 {l : List Ct} {i : Nat} {c : Ct} (h : l[i]? = some c) (f : Int) : (l.set i ⟨c.p, f, c.t, c.r⟩).flatMap ctL = (l.flatMap ctL).set (i * 4 + 1) (.int .i64 f) := by
  induction l generalizing i with
  | nil => simp at h
  | cons d l ih =>
    cases i with
    | zero => simp at h; subst h; simp [ctL]
    | succ i =>
      simp at h
      rw [List.set_cons_succ, List.flatMap_cons, List.flatMap_cons, ih h, show (i + 1) * 4 + 1 = i * 4 + 1 + (ctL d).length by simp [ctL]; omega]
      rw [List.set_append_right _ _ (by simp)]
      congr 2
theorem ctl_set3 {l : List Ct} {i : Nat} {c : Ct} (h : l[i]? = some c) (r : Int) : (l.set i ⟨c.p, c.f, c.t, r⟩).flatMap ctL = (l.flatMap ctL).set (i * 4 + 3) (.int .i64 r) := by
  induction l generalizing i with
  | nil => simp at h
  | cons d l ih =>
    cases i with
    | zero => simp at h; subst h; simp [ctL]
    | succ i =>
      simp at h
      rw [List.set_cons_succ, List.flatMap_cons, List.flatMap_cons, ih h, show (i + 1) * 4 + 3 = i * 4 + 3 + (ctL d).length by simp [ctL]; omega]
      rw [List.set_append_right _ _ (by simp)]
      congr 2

/-- The head of a row. -/
theorem cown_head {w : World} {base g cap N : Nat} {l m : List Ct} (h : COwn w base (.slice (some ⟨g, 0, none⟩) N cap) (l ++ m)) (hN : (l ++ m).length = N) : Cta w (some ⟨g, 0, none⟩) l := by
  have h1 : COwn w base (.slice (some ⟨g, 0, none⟩) (l ++ m).length cap) (l ++ m) := by rw [hN]; exact h
  obtain ⟨a, c, e, hc⟩ := h1.shape
  cases e
  rcases hc with hc | ⟨g', off, e, hc⟩
  · exact .inl (List.append_eq_nil_iff.mp hc).1
  · cases e
    exact .inr ⟨g, 0, rfl, fun i c hi => hc i c (by rw [List.getElem?_append_left (List.getElem?_eq_some_iff.mp hi).1]; exact hi)⟩

set_option maxHeartbeats 8000000 in
set_option maxRecDepth 100000 in
/-- The law PlanSays. -/
theorem planSays_any (a : Option Addr) (c n : Nat) (l : List Ct) (hln : l.length = n) (p x y m : Int) (w : World) (h : Cta w a l) (hc : n ≤ c) (hc2 : c * 32 ≤ 140737488351232) (hnil : a = none → n = 0 ∧ c = 0) (hm : m ≤ 9223372036854775807) :
    Calls Try.prog 3 #[.slice a n c, .int .i64 p, .int .i64 x, .int .i64 y, .int .i64 m] w fun e w' => e = .returned (.bool true) ∧ Below w.heap.size w w' := by
  obtain ⟨i0, hi, hz0, hz1, hz2⟩ := pinfo_parts Try.pinfo_ct
  have HLn : Hid (l.length = n) := hln
  clear hln
  have hn : n ≤ 4398046510976 := by omega
  have HS : Hid (∀ W, Below w.heap.size w W → Cta W a l) := fun W hb => h.below hb
  have HA := awake9_any w
  have HLt : Hid (∀ W, Below w.heap.size w W → Calls Try.prog 5 #[.slice a n c] W fun e w' => ∃ v, e = .returned v ∧ COwn w' W.heap.size v (l ++ mks) ∧ Below W.heap.size W w') := fun W hb => lent9_any a c n l HLn.out W (HS.out W hb) hc hc2 hnil
  clear h
  go_enter Try.func3, Try.ntmps3
  go_wp2_with fail
  refine HA.mono ?_
  rintro e w1 ⟨rfl, hb1⟩
  have HB1 : Hid (Below w.heap.size w w1) := hb1
  clear hb1 HA
  go_wp2_with fail
  refine (HLt.out _ HB1.out).mono ?_
  rintro e w2 ⟨v, rfl, ho2, hb2⟩
  have HB2 : Hid (Below w.heap.size w w2) := HB1.out.trans (hb2.mono HB1.out.size)
  have HO2 : Hid (COwn w2 w.heap.size v (l ++ mks)) := World.ownsRow.mono ho2 HB1.out.size
  obtain ⟨g, cap, hv, hg1, hg2, hcap⟩ := HO2.out.some (by simp [mks])
  have hL2 : (l ++ mks).length = n + 2 := by rw [List.length_append, HLn.out]; rfl
  rw [hL2] at hv hcap
  subst hv
  clear ho2 hb2 HB1
  have hN2 : (n : Int) ≤ (cap : Int) := by omega
  have hN3 : (0 : Int) ≤ (n : Int) := by omega
  have HCi : Hid (Cta w2 (some ⟨g, 0, none⟩) l) := cown_head HO2.out hL2
  have HSy := says_any (some ⟨g, 0, none⟩) a cap c l p x y m w2 HCi.out (HS.out _ HB2.out) (by rw [HLn.out]; omega) hm
  rw [HLn.out] at HSy
  go_wp2_with fail
  refine HSy.mono ?_
  rintro e w3 ⟨rfl, hb3⟩
  have HO3 : Hid (COwn w3 w.heap.size (.slice (some ⟨g, 0, none⟩) (n + 2) cap) (l ++ mks)) := pl_own_below HO2.out hb3
  have HB3 : Hid (Below w.heap.size w w3) := HB2.out.trans (hb3.mono HB2.out.size)
  clear hb3 HSy HO2 HB2 HCi
  go_wp2_with fail
  refine (HLt.out _ HB3.out).mono ?_
  rintro e w4 ⟨v4, rfl, ho4, hb4⟩
  have HO4 : Hid (COwn w4 w.heap.size (.slice (some ⟨g, 0, none⟩) (n + 2) cap) (l ++ mks)) := pl_own_below HO3.out hb4
  have HB4 : Hid (Below w.heap.size w w4) := HB3.out.trans (hb4.mono HB3.out.size)
  obtain ⟨a4, c4, hv4, hcta4⟩ := ho4.shape
  obtain ⟨a5, c5, hv5, hcta5⟩ := HO4.out.shape
  rw [hL2] at hv4 hv5
  subst hv4
  cases hv5
  have HSm := same9_eq (some ⟨g, 0, none⟩) a4 cap c4 (l ++ mks) w4 hcta5 hcta4 (by rw [hL2]; omega)
  rw [hL2] at HSm
  clear ho4 hb4 hcta4 hcta5 HO3 HB3 HLt
  go_wp2_with fail
  refine HSm.mono ?_
  rintro e w5 ⟨rfl, hb5⟩
  have HO5 : Hid (COwn w5 w.heap.size (.slice (some ⟨g, 0, none⟩) (n + 2) cap) (l ++ mks)) := pl_own_below HO4.out hb5
  have HB5 : Hid (Below w.heap.size w w5) := HB4.out.trans (hb5.mono HB4.out.size)
  clear hb5 HSm HO4 HB4 hL2
  go_wp2_with fail
  go_loopw [16] (fun i wr => ∃ (k : Nat) (l' : List Ct), k ≤ n ∧ i = .int .i64 k ∧ Hid (l'.length = n ∧ COwn wr w.heap.size (.slice (some ⟨g, 0, none⟩) (n + 2) cap) (l' ++ mks) ∧ Below w.heap.size w wr)) (fun i _ => n - (intOf i).toNat)
  case atStart => exact ⟨0, l, by omega, rfl, (⟨HLn.out, HO5.out, HB5.out⟩ : l.length = n ∧ COwn w5 w.heap.size (.slice (some ⟨g, 0, none⟩) (n + 2) cap) (l ++ mks) ∧ Below w.heap.size w w5)⟩
  case round =>
    obtain ⟨k, l', hk, rfl, HG⟩ := hrel
    clear HO5 HB5
    have HL' : Hid ((l' ++ mks).length = n + 2) := by show _ = _; rw [List.length_append, HG.out.1]; rfl
    by_cases hlt : k < n
    · have hlt' : (k : Int) < (n : Int) := by omega
      obtain ⟨ck, hck⟩ := pl_get l' k (by rw [HG.out.1]; omega)
      have hck2 : (l' ++ mks)[k]? = some ck := by rw [List.getElem?_append_left (by rw [HG.out.1]; omega)]; exact hck
      have hcg := ctl_get (l' ++ mks) k ck hck2
      have q1 : wr.cell? ⟨g, k * 4 + 1, none⟩ = some (.int .i64 ck.f) := (World.ownsRow.cellAt (by have := HG.out.2.1; unfold COwn at this; rw [HL'.out] at this; exact this) _ (by omega)).trans hcg.2.1
      have f1 : wr.frozen? ⟨g, k * 4 + 1, none⟩ = false := World.ownsRow.frozenAt (by have := HG.out.2.1; unfold COwn at this; rw [HL'.out] at this; exact this) _
      have q3 : wr.cell? ⟨g, k * 4 + 3, none⟩ = some (.int .i64 ck.r) := (World.ownsRow.cellAt (by have := HG.out.2.1; unfold COwn at this; rw [HL'.out] at this; exact this) _ (by omega)).trans hcg.2.2.2
      obtain ⟨F, hF⟩ : ∃ F, IntKind.i64.wrap (ck.f + 1) = F := ⟨_, rfl⟩
      obtain ⟨R, hR⟩ : ∃ R, (1 : Int) + (k : Int) % 7 = R := ⟨_, rfl⟩
      have htm : Int.tmod (k : Int) 7 = (k : Int) % 7 := Int.tmod_eq_emod_of_nonneg (by omega)
      have hw1 : IntKind.i64.wrap ((k : Int) % 7) = (k : Int) % 7 := by rw [IntKind.wrap_i64]; omega
      have hw2 : IntKind.i64.wrap (1 + (k : Int) % 7) = 1 + (k : Int) % 7 := by rw [IntKind.wrap_i64]; omega
      have HG2 : Hid (∃ l2 : List Ct, l2.length = n ∧ COwn ((wr.setCell ⟨g, k * 4 + 1, none⟩ (.int .i64 F)).setCell ⟨g, k * 4 + 3, none⟩ (.int .i64 R)) w.heap.size (.slice (some ⟨g, 0, none⟩) (n + 2) cap) (l2 ++ mks) ∧ Below w.heap.size w ((wr.setCell ⟨g, k * 4 + 1, none⟩ (.int .i64 F)).setCell ⟨g, k * 4 + 3, none⟩ (.int .i64 R))) := by
        have h0 := HG.out.2.1
        unfold COwn at h0
        rw [HL'.out] at h0
        have h1 := (World.ownsRow.stored h0 (k * 4 + 1) (.int .i64 F)).1
        have h2 := (World.ownsRow.stored h1 (k * 4 + 3) (.int .i64 R)).1
        have hk1 : k < l'.length := by rw [HG.out.1]; omega
        have hk2 : k < (l' ++ mks).length := by rw [HL'.out]; omega
        have e1 := ctl_set1 hck2 F
        have e2 := ctl_set3 (l := (l' ++ mks).set k ⟨ck.p, F, ck.t, ck.r⟩) (i := k) (c := ⟨ck.p, F, ck.t, ck.r⟩) (by rw [List.getElem?_set_self hk2]) R
        rw [← e1, ← e2] at h2
        refine ⟨(l'.set k ⟨ck.p, F, ck.t, ck.r⟩).set k ⟨ck.p, F, ck.t, R⟩, by simp [HG.out.1], ?_, (HG.out.2.2.setCell hg1 _).setCell hg1 _⟩
        have e3 : (l'.set k ⟨ck.p, F, ck.t, ck.r⟩).set k ⟨ck.p, F, ck.t, R⟩ ++ mks = ((l' ++ mks).set k ⟨ck.p, F, ck.t, ck.r⟩).set k ⟨ck.p, F, ck.t, R⟩ := by
          rw [List.set_append_left _ _ hk1, List.set_append_left _ _ (by simpa using hk1)]
        unfold COwn
        rw [e3]
        have : (((l' ++ mks).set k ⟨ck.p, F, ck.t, ck.r⟩).set k ⟨ck.p, F, ck.t, R⟩).length = n + 2 := by rw [List.length_set, List.length_set, HL'.out]
        rw [this]
        exact h2
      have f3 : (wr.setCell ⟨g, k * 4 + 1, none⟩ (.int .i64 F)).frozen? ⟨g, k * 4 + 3, none⟩ = false := by
        have h0 := HG.out.2.1
        unfold COwn at h0
        rw [HL'.out] at h0
        exact World.ownsRow.frozenAt (World.ownsRow.stored h0 (k * 4 + 1) (.int .i64 F)).1 _
      have q3' : ∃ u, (wr.setCell ⟨g, k * 4 + 1, none⟩ (.int .i64 F)).cell? ⟨g, k * 4 + 3, none⟩ = some u := by
        have h0 := HG.out.2.1
        unfold COwn at h0
        rw [HL'.out] at h0
        have h1 := (World.ownsRow.stored h0 (k * 4 + 1) (.int .i64 F)).1
        refine ⟨.int .i64 ck.r, ?_⟩
        rw [World.ownsRow.cellAt h1 _ (by omega), List.getElem?_set_ne (by omega)]
        exact hcg.2.2.2
      obtain ⟨u3, q3'⟩ := q3'
      generalize ck.f = fk at *
      clear hck hck2 hcg HG HL'
      go_wp2
      go_roundw
      case rel =>
        obtain ⟨l2, h1, h2, h3⟩ := HG2.out
        exact ⟨k + 1, l2, by omega, by go_num, (⟨h1, h2, h3⟩ : l2.length = n ∧ COwn _ _ _ (l2 ++ mks) ∧ Below w.heap.size w _)⟩
      case measure => simp [intOf]; omega
    · have hkn : k = n := by omega
      subst hkn
      have HCi : Hid (Cta wr (some ⟨g, 0, none⟩) l') := cown_head HG.out.2.1 HL'.out
      have HNw : Hid (∀ (j : Nat) u, (l'.flatMap ctL)[j]? = some u → wr.cell? ((⟨g, 0, none⟩ : Addr).add j) = some u) := by
        rcases HCi.out with h0 | ⟨g', off, h1, h2⟩
        · rw [h0]; intro j u hj; simp at hj
        · cases h1; exact cta_news h2
      have HLc : Hid ((l'.flatMap ctL).length = k * 4) := by show _ = _; rw [ctl_len, HG.out.1]
      have hbs := HG.out.2.2.size
      go_wp2_with (at_builtin; refine wpList_append_own_at _ rfl _ _ 22 rfl w.heap.size 28 i0 (.agg #[.int .i64 0, .int .i64 0, .int .i64 0, .int .i64 0]) 4 32 Try.underlying22 hi hz0 hz1 hz2 rfl (by decide) (.slice none 0 0) 0 [] rfl (World.ownsRow_nil _ _ _ _) ⟨g, 0, none⟩ k cap (l'.flatMap ctL) rfl HLc.out HNw.out (ctl_one _) (by unfold maxLen; omega) (by omega) hbs ?_)
      intro v6 w6 hown6 hgrow6 hif hat6
      clear hif
      have hb6 : Below wr.heap.size wr w6 := ⟨hgrow6.os, hgrow6.tape, hgrow6.output, hgrow6.size, fun k hk => hgrow6.block k hk (by simp [Value.ownBlock])⟩
      have ho6 : COwn w6 w.heap.size v6 l' := by unfold COwn; rw [HG.out.1]; simpa using hown6
      have HB6 : Hid (Below w.heap.size w w6) := HG.out.2.2.trans (hb6.mono hbs)
      have HC6 : Hid (Cta w6 (some ⟨g, 0, none⟩) l') := HCi.out.below hb6
      obtain ⟨ao, co, hv6, hcta6⟩ := ho6.shape
      rw [HG.out.1] at hv6
      subst hv6
      have HCo : Hid (Cta w6 ao l') := hcta6
      have HSy := says_any (some ⟨g, 0, none⟩) ao cap co l' p x y m w6 HC6.out hcta6 (by rw [HG.out.1]; omega) hm
      rw [HG.out.1] at HSy
      clear hown6 hgrow6 hat6 hb6 ho6 hcta6 HNw HLc HCi
      go_wp2_with fail
      refine HSy.mono ?_
      rintro e w7 ⟨rfl, hb7⟩
      have HB7 : Hid (Below w.heap.size w w7) := HB6.out.trans (hb7.mono HB6.out.size)
      have HSm := same9_eq (some ⟨g, 0, none⟩) ao cap co l' w7 (HC6.out.below hb7) (HCo.out.below hb7) (by rw [HG.out.1]; omega)
      rw [HG.out.1] at HSm
      clear hb7 HSy HB6 HC6 HCo
      go_wp2_with fail
      refine HSm.mono ?_
      rintro e w8 ⟨rfl, hb8⟩
      have HB8 : Hid (Below w.heap.size w w8) := HB7.out.trans (hb8.mono HB7.out.size)
      clear hb8 HSm HB7
      go_wp2
      go_ret
      exact ⟨by simp, HB8.out⟩

end Go.Proofs.Ytjolflpmeodnaah
