import Derived.Test.YtdfdaambfihjaaaDoorLnCs
import Derived.Test.YtdfdaambfihjaaaDoorLnTk
namespace Go.Proofs.YtdfdaambfihjaaaDoor.L
open Go.RowKit
set_option linter.unusedVariables false
set_option linter.unusedSimpArgs false

/-- So far was taken. -/
structure TkS (w wr : World) (p m : Nat) (lim K : Int) (S : Pm) (o : Lo) (M c : Nat) (E : List En) (x most k : Nat) (qk : Nat → Qd) (ov : Value) : Prop where
  lg : Lg wr p m lim (setS S K (some (x, qk))) M c E
  kl : Kl (FL m S) w wr
  fo : ∀ g, FL m (setS S K (some (x, qk))) g → FL m S g ∨ w.heap.size ≤ g
  rem : ∀ i, i < k → (qk i).L = (Wt o i).drop (most - (Pk o i).length)
  left : ∀ i, k ≤ i → i < 3 → (qk i).L = Wt o i
  out : wr.ownsRow 0 37 14 ov ((Pk o k).take most).length (seg ((Pk o k).take most))
  new : ∀ g, ov.ownBlock = some g → w.heap.size ≤ g
  ap : ∀ j g, j < 3 → (qk j).v.ownBlock = some g → ov.ownBlock ≠ some g
/-- What Take answers. -/
structure TkG (w w' : World) (p m : Nat) (lim K : Int) (S S' : Pm) (M c : Nat) (E E' : List En) (most : Nat) (ov : Value) : Prop where
  lg : Lg w' p m lim S' M c E'
  kl : Kl (FL m S) w w'
  fo : ∀ g, FL m S' g → FL m S g ∨ w.heap.size ≤ g
  rem : ∀ i, i < 3 → Wt (S' K) i = (Wt (S K) i).drop (most - (Pk (S K) i).length)
  ot : ∀ K', K' ≠ K → S' K' = S K'
  out : w'.ownsRow 0 37 14 ov ((Cc (S K)).take most).length (seg ((Cc (S K)).take most))
  new : ∀ g, ov.ownBlock = some g → w.heap.size ≤ g ∧ ¬ FL m S' g
theorem Wt_leG {w : World} {p m : Nat} {lim : Int} {S : Pm} {M c : Nat} {E : List En} (h : Lg w p m lim S M c E) (K : Int) (i : Nat) (hi : i < 3) : (Wt (S K) i).length ≤ M := by
  cases hS : S K with
  | none => simp [Wt]
  | some xq =>
    obtain ⟨x, q⟩ := xq
    have := ((h.ln K x q hS).k i hi).small
    show (q i).L.length ≤ M
    omega

set_option maxRecDepth 100000 in
set_option maxHeartbeats 8000000 in
theorem takeG (w : World) (p m : Nat) (lim K : Int) (S : Pm) (M c : Nat) (E : List En) (mi : Int) (most : Nat) (hmi : mi.toNat = most) (hm1 : -9223372036854775808 ≤ mi) (hm2 : mi ≤ 9223372036854775807) (h : Lg w p m lim S M c E) (hM : M ≤ 17179869184) :
    Calls Tryd.prog 8 #[.pointer (some ⟨p, 0, none⟩), .int .i64 K, .int .i64 mi] w fun e w' => ∃ ov S' E', e = .returned ov ∧ TkG w w' p m lim K S S' M c E E' most ov := by
  have c1 := h.c1
  have HL : Hid (Lg w p m lim S M c E) := h
  cases hSK : S K with
  | none =>
    have hlk := lookG0 h.mp K (h.no hSK)
    have HF : Hid (TkG w w p m lim K S S M c E E most (.slice none 0 0)) := by
      refine ⟨h, Kl.refl _ _, fun g hg => .inl hg, fun i hi => ?_, fun K' _ => rfl, ?_, fun g hg => (by cases hg)⟩
      · rw [hSK]
        show [] = List.drop _ []
        simp
      · have e : (Cc (S K)).take most = [] := by rw [hSK]; show List.take most [] = []; simp
        rw [e]
        exact World.ownsRow_nil _ _ _ _
    clear h hSK
    go_enter Tryd.func8, Tryd.ntmps8
    go_wp2
    go_ret
    exact ⟨_, S, E, rfl, HF.out⟩
  | some xq =>
    obtain ⟨x, q⟩ := xq
    have hlk := h.look hSK
    obtain ⟨o, ho⟩ : ∃ o, S K = o := ⟨_, rfl⟩
    have HO : Hid (S K = o ∧ o = some (x, q)) := ⟨ho, ho.symm.trans hSK⟩
    have HT0 : Hid (TkS w w p m lim K S o M c E x most 0 q (.slice none 0 0)) := by
      have e := setS_id hSK
      exact ⟨by rw [e]; exact h, Kl.refl _ _, fun g hg => .inl (by rw [e] at hg; exact hg), fun i hi => (by omega), fun i _ _ => by rw [HO.out.2]; rfl, by simp only [Pk, List.take_nil]; exact World.ownsRow_nil _ _ _ _, fun g hg => (by cases hg), fun j g _ _ e => (by cases e)⟩
    have HPl : Hid (∀ k, k ≤ 3 → (Pk o k).length ≤ 3 * M) := fun k hk => by
      have h0 := Wt_leG HL.out K 0 (by omega)
      have h1 := Wt_leG HL.out K 1 (by omega)
      have h2 := Wt_leG HL.out K 2 (by omega)
      rw [ho] at h0 h1 h2
      have e : k = 0 ∨ k = 1 ∨ k = 2 ∨ k = 3 := by omega
      rcases e with rfl | rfl | rfl | rfl <;> simp [Pk] <;> omega
    have hneg : mi < 0 → most = 0 := fun h => by omega
    clear h hSK ho
    go_enter Tryd.func8, Tryd.ntmps8
    go_wp2_with fail
    go_loopw [9, 22] (fun s9 s22 wr => ∃ k, k ≤ 3 ∧ s22 = .int .i64 (k : Nat) ∧ ∃ qk ov, ov = s9 ∧ Hid (TkS w wr p m lim K S o M c E x most k qk ov)) (fun _ s22 _ => 3 - (intOf s22).toNat)
    case atStart => exact ⟨0, by omega, rfl, q, _, rfl, HT0⟩
    case round =>
      obtain ⟨k, hk, rfl, qk, ov, hov9, HT⟩ := hrel
      subst hov9
      clear HT0
      by_cases hlt : k < 3
      · obtain ⟨oa, oc, hov⟩ := own_sl HT.out.out
        subst hov
        have hlt' : (k : Int) < 3 := by omega
        have h0k : 0 ≤ (k : Int) := by omega
        have hwk : IntKind.i64.wrap ((k : Int) + 1) = (k : Int) + 1 := by rw [IntKind.wrap_i64]; omega
        obtain ⟨N, hN⟩ : ∃ N, ((Pk o k).take most).length = N := ⟨_, rfl⟩
        have hNm : N ≤ most := by rw [← hN]; simp; omega
        have hNb : N ≤ 3 * M := by rw [← hN]; have := HPl.out k hk; simp; omega
        obtain ⟨r, hr⟩ : ∃ r, most - N = r := ⟨_, rfl⟩
        obtain ⟨ri, hri⟩ : ∃ ri, mi - (N : Int) = ri := ⟨_, rfl⟩
        have hwr : IntKind.i64.wrap (mi - (N : Int)) = ri := by rw [IntKind.wrap_i64]; omega
        have hwr2 : IntKind.i64.wrap ri = ri := by rw [IntKind.wrap_i64]; omega
        have hco := ltakeI (HT.out.lg.ln K x qk (setS_same _ _ _)) hlt (by omega) (.slice oa N oc) ((Pk o k).take most) N (by have := HT.out.out; rw [hN] at this; exact this) (by omega) (fun j g hj hg => by have := HT.out.ap j g hj hg; rw [hN] at this; exact this) ri r (by omega)
        rw [hN]
        have HN : Hid (((Pk o k).take most).length = N ∧ most - N = r) := ⟨hN, hr⟩
        clear hN hr hmi
        go_wp2_with fail
        refine hco.mono ?_
        rintro e U ⟨ov', d, rfl, hd, l1, f1, o1, a1, ap1, k1⟩
        have HU : Hid (TkS w U p m lim K S o M c E x most (k + 1) (upq qk k d) ov') := by
          have hT := HT.out
          have hKk : setS S K (some (x, qk)) K = some (x, qk) := setS_same _ _ _
          have eWk : (qk k).L = Wt o k := hT.left k (Nat.le_refl _) hlt
          have hPl : N = min most (Pk o k).length := by rw [← HN.out.1, List.length_take]
          have hrr : r = most - (Pk o k).length := by have := HN.out.2; omega
          have hovn : ∀ g, (Value.slice oa N oc).ownBlock = some g → w.heap.size ≤ g ∧ ¬ FL m (setS S K (some (x, qk))) g ∧ g ≠ p := fun g e => by
            have h1 := hT.new g (by rw [HN.out.1]; exact e)
            have hp := HL.out.plt
            refine ⟨h1, fun e2 => ?_, by omega⟩
            rcases e2 with e2 | ⟨K', x', q', hs, hg⟩
            · have := HL.out.mlt; omega
            · by_cases e3 : K' = K
              · subst e3
                rw [hKk] at hs
                cases hs
                rcases hg with e4 | ⟨i, hi, e4⟩
                · subst e4
                  have := HL.out.lt (g := g) (.inr ⟨K', g, q, HO.out.1.trans HO.out.2, .inl rfl⟩)
                  omega
                · have := hT.ap i g hi e4
                  rw [HN.out.1] at this
                  exact this e
              · rw [setS_other S _ e3] at hs
                have := HL.out.lt (g := g) (.inr ⟨K', x', q', hs, hg⟩)
                omega
          have hlg := hT.lg.line hKk (Nat.le_refl _) l1 k1 (fun g e => e.imp id (fun e => (hovn g e).2)) f1
          rw [setS_twice'] at hlg
          refine ⟨hlg, hT.kl.then k1 (fun g hg e => ?_), fun g hg => ?_, fun i hi => ?_, fun i hi hi3 => ?_, ?_, fun g hg => ?_, ap1⟩
          · rcases e with e | e
            · rcases hT.fo g (.inr ⟨K, x, qk, hKk, e⟩) with e | e
              · exact e
              · omega
            · have := (hovn g e).1; omega
          · rcases hg with e | ⟨K', x', q', hs, hg⟩
            · exact .inl (.inl e)
            · by_cases e3 : K' = K
              · subst e3
                rw [setS_same] at hs
                cases hs
                rcases f1 g hg with e | e
                · exact hT.fo g (.inr ⟨_, _, _, hKk, e⟩)
                · exact .inr (Nat.le_trans hT.kl.size e)
              · rw [setS_other S _ e3] at hs
                exact .inl (.inr ⟨_, _, _, hs, hg⟩)
          · by_cases e : i = k
            · subst e
              rw [upq_same, hd, eWk, hrr]
            · rw [upq_other qk d e]
              exact hT.rem i (by omega)
          · rw [upq_other qk d (by omega)]
            exact hT.left i (by omega) hi3
          · have e1 : (Pk o (k + 1)).take most = (Pk o k).take most ++ (qk k).L.take r := by
              show (Pk o k ++ Wt o k).take most = _
              rw [List.take_append, hrr, eWk]
            rw [e1, List.length_append, HN.out.1]
            exact o1
          · rcases a1 g hg with e | e
            · exact (hovn g e).1
            · exact Nat.le_trans hT.kl.size e
        clear hco hd l1 f1 o1 a1 ap1 k1
        go_wp2
        go_roundw
        case rel => exact ⟨k + 1, by omega, by go_num, _, _, rfl, HU⟩
        case measure => simp [intOf]; omega
      · obtain rfl : k = 3 := by omega
        have hfg := forgetG wr p m lim K (setS S K (some (x, qk))) M c E HT.out.lg (by omega)
        go_wp2_with fail
        refine hfg.mono ?_
        rintro e U ⟨⟨u, rfl⟩, S', E', hF⟩
        have HF : Hid (TkG w U p m lim K S S' M c E E' most ov) := by
          have hT := HT.out
          have hKk : setS S K (some (x, qk)) K = some (x, qk) := setS_same _ _ _
          have hnm : ∀ g, ov.ownBlock = some g → g ≠ m := fun g hg e => by
            have := hT.new g hg; have := HL.out.mlt; omega
          refine ⟨hF.lg, hT.kl.then hF.kl (fun g _ e => .inl e), fun g hg => hT.fo g (hF.fo g hg), fun i hi => ?_, fun K' hK' => (hF.ot K' hK').trans (setS_other S _ hK'), ?_, fun g hg => ⟨hT.new g hg, fun e => ?_⟩⟩
          · rw [hF.wt K i hi, hKk, HO.out.1]
            exact hT.rem i hi
          · rw [HO.out.1]
            exact hF.kl.own hT.out (fun g hg e => hnm g hg e)
          · rcases hF.fo g e with e | ⟨K', x', q', hs, hg2⟩
            · exact hnm g hg e
            · by_cases e3 : K' = K
              · subst e3
                rw [hKk] at hs
                cases hs
                rcases hg2 with e4 | ⟨i, hi, e4⟩
                · subst e4
                  exact own_hp hT.out (hT.lg.ln _ _ _ hKk).box ln_ty hg
                · exact hT.ap i g hi e4 hg
              · rw [setS_other S _ e3] at hs
                have := HL.out.lt (g := g) (.inr ⟨K', x', q', hs, hg2⟩)
                have := hT.new g hg
                omega
        clear hfg hF
        go_wp2
        go_ret
        exact ⟨_, _, _, rfl, HF.out⟩

end Go.Proofs.YtdfdaambfihjaaaDoor.L

namespace Go.Proofs.YtdfdaambfihjaaaDoor.L
open Go.RowKit
set_option linter.unusedVariables false
set_option linter.unusedSimpArgs false

/-! ## Drop, of any peers -/
theorem filt_lt {α : Type} {p q : α → Bool} : ∀ {l : List α}, (∀ x ∈ l, p x = true → q x = true) → (∃ x ∈ l, q x = true ∧ p x = false) → (l.filter p).length < (l.filter q).length
  | [], _, h => by obtain ⟨x, hx, _⟩ := h; cases hx
  | a :: r, hi, h => by
    have hle : (r.filter p).length ≤ (r.filter q).length := by
      have hr : ∀ x ∈ r, p x = true → q x = true := fun x hx => hi x (List.mem_cons_of_mem _ hx)
      clear hi h
      induction r with
      | nil => simp
      | cons b r ih =>
        have := ih (fun x hx => hr x (List.mem_cons_of_mem _ hx))
        have h1 := hr b List.mem_cons_self
        cases hb : p b with
        | false =>
          cases hq : q b <;> simp [List.filter_cons, hb, hq] <;> omega
        | true =>
          have h2 := h1 hb
          simp [List.filter_cons, hb, h2]
          omega
    obtain ⟨x, hx, h1, h2⟩ := h
    rcases List.mem_cons.mp hx with rfl | hx
    · simp [List.filter_cons, h1, h2]
      omega
    · have ih := filt_lt (l := r) (fun x hx => hi x (List.mem_cons_of_mem _ hx)) ⟨x, hx, h1, h2⟩
      have h3 := hi a List.mem_cons_self
      cases hb : p a with
      | false =>
        cases hq : q a <;> simp [List.filter_cons, hb, hq] <;> omega
      | true =>
        have h4 := h3 hb
        simp [List.filter_cons, hb, h4]
        omega
theorem map_inj {α β : Type} {f : α → β} {l : List α} (h : (l.map f).Nodup) {a b : α} (ha : a ∈ l) (hb : b ∈ l) (e : f a = f b) : a = b := by
  induction l with
  | nil => cases ha
  | cons x r ih =>
    rw [List.map_cons, List.nodup_cons] at h
    rcases List.mem_cons.mp ha with ea | ha'
    · rcases List.mem_cons.mp hb with eb | hb'
      · rw [ea, eb]
      · exact absurd (List.mem_map.mpr ⟨b, hb', by rw [← e, ea]⟩) h.1
    · rcases List.mem_cons.mp hb with eb | hb'
      · exact absurd (List.mem_map.mpr ⟨a, ha', by rw [e, eb]⟩) h.1
      · exact ih h.2 ha' hb'
def dsum (S : Pm) (S1 S2 : Int) (all : Bool) (v : List Int) : Nat := (v.map fun K => dpn (S K) S1 S2 all).sum
theorem dpn_le (o : Lo) (S1 S2 : Int) (all : Bool) : dpn o S1 S2 all ≤ cnt o := by unfold dpn cnt; omega
theorem dsum_le (S : Pm) (S1 S2 : Int) (all : Bool) : ∀ v, dsum S S1 S2 all v ≤ (v.map fun K => cnt (S K)).sum
  | [] => by simp [dsum]
  | K :: r => by
    have h1 := dsum_le S S1 S2 all r
    have h2 := dpn_le (S K) S1 S2 all
    unfold dsum at *
    simp only [List.map_cons, List.sum_cons]
    omega
/-- How many wait in all. -/
def Tot (S : Pm) (N : Nat) : Prop := ∀ v : List Int, v.Nodup → (v.map fun K => cnt (S K)).sum ≤ N
structure DpS (w wr : World) (p m B : Nat) (lim : Int) (S S' : Pm) (M c : Nat) (E E' : List En) (seen : Array Nat) (v : List Int) (S1 S2 : Int) (all : Bool) : Prop where
  lg : Lg wr p m lim S' M c E'
  kl : Kl (FL m S) w wr
  fo : ∀ g, FL m S' g → FL m S g ∨ B + 3 ≤ g
  it : wr.heap[B + 2]? = some (.mapIter (some m) c seen c)
  b0 : wr.heap[B]? = some (.cells #[.int .i64 S1, .int .i64 S2] 32 (0, 0))
  b1 : wr.heap[B + 1]? = some (.cells #[.bool all] 4 (0, 0))
  vis : ∀ K ∈ v, Wt (S' K) 0 = Wt (S K) 0 ∧ Wt (S' K) 1 = kp S1 S2 all (Wt (S K) 1) ∧ Wt (S' K) 2 = kp S1 S2 all (Wt (S K) 2)
  unv : ∀ K, K ∉ v → S' K = S K
  nd : v.Nodup
  sub : ∀ e ∈ E', e ∈ E
  sn : ∀ e ∈ E, (e.b ∈ seen.toList ↔ e.k ∈ v)
/-- What Drop leaves. -/
structure DpG (w w' : World) (p m : Nat) (lim : Int) (S S' : Pm) (M c : Nat) (E' : List En) (v : List Int) (S1 S2 : Int) (all : Bool) : Prop where
  lg : Lg w' p m lim S' M c E'
  kl : Kl (FL m S) w w'
  fo : ∀ g, FL m S' g → FL m S g ∨ w.heap.size ≤ g
  w0 : ∀ K, Wt (S' K) 0 = Wt (S K) 0
  w1 : ∀ K, Wt (S' K) 1 = kp S1 S2 all (Wt (S K) 1)
  w2 : ∀ K, Wt (S' K) 2 = kp S1 S2 all (Wt (S K) 2)
  nd : v.Nodup
  cov : ∀ K, K ∉ v → S K = none
theorem DpS.done {w wr : World} {p m B : Nat} {lim : Int} {S S' : Pm} {M c : Nat} {E E' : List En} {seen : Array Nat} {v : List Int} {S1 S2 : Int} {all : Bool} (h : DpS w wr p m B lim S S' M c E E' seen v S1 S2 all) (hB : w.heap.size = B) (ha : ∀ e ∈ E', e.b ∈ seen.toList) : DpG w wr p m lim S S' M c E' v S1 S2 all := by
  have hc : ∀ K, K ∉ v → S K = none := fun K hK => by
    cases hs : S K with
    | none => rfl
    | some xq =>
      obtain ⟨x, q⟩ := xq
      obtain ⟨b, hb⟩ := h.lg.ne K x q (by rw [h.unv K hK]; exact hs)
      exact absurd ((h.sn _ (h.sub _ hb)).mp (ha _ hb)) hK
  have key : ∀ K, Wt (S' K) 0 = Wt (S K) 0 ∧ Wt (S' K) 1 = kp S1 S2 all (Wt (S K) 1) ∧ Wt (S' K) 2 = kp S1 S2 all (Wt (S K) 2) := fun K => by
    by_cases hK : K ∈ v
    · exact h.vis K hK
    · rw [h.unv K hK, hc K hK]
      exact ⟨rfl, rfl, rfl⟩
  exact ⟨h.lg, h.kl, fun g hg => (h.fo g hg).imp id (fun e => by omega), fun K => (key K).1, fun K => (key K).2.1, fun K => (key K).2.2, h.nd, hc⟩

set_option maxRecDepth 100000 in
set_option maxHeartbeats 8000000 in
theorem dropG (w : World) (p m : Nat) (lim : Int) (S : Pm) (M c : Nat) (E : List En) (S1 S2 : Int) (all : Bool) (Tn : Nat) (h : Lg w p m lim S M c E) (hM : M ≤ 17179869184) (hTot : Tot S Tn) (hTn : Tn ≤ 68719476736) :
    Calls Tryd.prog 12 #[.pointer (some ⟨p, 0, none⟩), .agg #[.int .i64 S1, .int .i64 S2], .bool all] w fun e w' => ∃ v S' E', e = .returned (.int .i64 (dsum S S1 S2 all v : Nat)) ∧ DpG w w' p m lim S S' M c E' v S1 S2 all := by
  obtain ⟨B, hB⟩ : ∃ B, w.heap.size = B := ⟨_, rfl⟩
  obtain ⟨W, hW⟩ : ∃ W, (w.alloc (.cells #[.int .i64 S1, .int .i64 S2] 32)).alloc (.cells #[.bool all] 4) = W := ⟨_, rfl⟩
  have HW : Hid ((w.alloc (.cells #[.int .i64 S1, .int .i64 S2] 32)).alloc (.cells #[.bool all] 4) = W) := hW
  have bW : Below w.heap.size w W := by rw [← hW]; exact ((Below.refl _ _).alloc (Nat.le_refl _) _).alloc (by simp) _
  have hsz : W.heap.size = B + 2 := by rw [← hW, ← hB]; simp
  have hc0 : W.heap[B]? = some (.cells #[.int .i64 S1, .int .i64 S2] 32 (0, 0)) := by
    rw [← hW, ← hB, Below.heap_alloc _ _ _ (by simp)]; exact heap_alloc_new' _ _
  have hc1 : W.heap[B + 1]? = some (.cells #[.bool all] 4 (0, 0)) := by
    have := heap_alloc_new' (w.alloc (.cells #[.int .i64 S1, .int .i64 S2] 32)) (.cells #[.bool all] 4)
    rw [World.size_alloc, hB] at this
    rw [← hW]
    exact this
  have hLW := h.below bW
  have c1 := hLW.c1
  have hrg := rg1 W m c _ hLW.mp.blk
  rw [hsz] at hrg
  obtain ⟨W0, hW0⟩ : ∃ W0, W.alloc (.mapIter (some m) c #[] c) = W0 := ⟨_, rfl⟩
  have HW0 : Hid (W.alloc (.mapIter (some m) c #[] c) = W0) := hW0
  have HL : Hid (Lg w p m lim S M c E ∧ w.heap.size = B ∧ Tot S Tn) := ⟨h, hB, hTot⟩
  have HD0 : Hid (DpS w W0 p m B lim S S M c E E #[] [] S1 S2 all) := by
    have b0 : Below W.heap.size W W0 := by rw [← hW0]; exact (Below.refl _ _).alloc (Nat.le_refl _) _
    refine ⟨hLW.below b0, (Kl.of_below bW).below b0, fun g hg => .inl hg, ?_, (b0.block B (by omega)).trans hc0, (b0.block (B + 1) (by omega)).trans hc1, fun K hK => (by cases hK), fun K _ => rfl, List.nodup_nil, fun e he => he, fun e he => ?_⟩
    · rw [← hW0, ← hsz]; exact heap_alloc_new' _ _
    · simp
  clear h hW bW hsz hc0 hc1 hLW hW0 hTot
  go_enter Tryd.func12, Tryd.ntmps12
  go_upto_region 3 with fail
  rw [HW.out]
  go_wp2_with fail
  rw [HW0.out]
  go_loopw [8] (fun s8 wr => ∃ (n : Nat), s8 = .int .i64 (n : Int) ∧ Hid (∃ S' E' seen v, dsum S S1 S2 all v = n ∧ DpS w wr p m B lim S S' M c E E' seen v S1 S2 all)) (fun _ wr => match wr.heap[B + 2]? with
    | some (.mapIter _ _ s _) => (E.filter fun e => !decide (e.b ∈ s.toList)).length
    | _ => 0)
  case atStart => exact ⟨0, rfl, S, E, #[], [], rfl, HD0.out⟩
  case round =>
    obtain ⟨n, rfl, S', E', seen, v, hn, hD⟩ := hrel
    have HD : Hid (DpS w wr p m B lim S S' M c E E' seen v S1 S2 all ∧ dsum S S1 S2 all v = n) := ⟨hD, hn⟩
    clear HD0 hrg
    rcases nextG hD.lg.mp hD.it 0 with ⟨hall, hnx0⟩ | ⟨en, hen, hns, w1, hw1, hnx0⟩
    · have hnx : ∀ ty, (Instr.next (.pointer (some ⟨B + 2, 0, none⟩)) false ty).run Tryd.prog wr = .ok (.tuple #[.bool false]) wr := fun ty => hnx0
      have HF : Hid (DpG w wr p m lim S S' M c E' v S1 S2 all) := hD.done HL.out.2.1 hall
      clear hD hall hnx0 hn
      go_wp2
      go_ret
      exact ⟨v, S', E', by rw [HD.out.2]; first | rfl | simp, HF.out⟩
    · obtain ⟨W1, hW1⟩ : ∃ W1, setO w1 (B + 2) (.mapIter (some m) c (seen.push en.b) c) = W1 := ⟨_, rfl⟩
      rw [hW1] at hnx0
      have hnx : ∀ ty, (Instr.next (.pointer (some ⟨B + 2, 0, none⟩)) false ty).run Tryd.prog wr = .ok (.tuple #[.bool true, .int .i64 en.k, .pointer (some ⟨en.x, 0, none⟩)]) W1 := fun ty => hnx0
      have hBw : B + 3 ≤ wr.heap.size := (Array.getElem?_eq_some_iff.1 hD.it).1
      have k01 : Kl (fun g => g = B + 2) wr W1 := by
        have h1 : Kl (fun g => g = B + 2) wr w1 := by rcases hw1 with rfl | rfl <;> exact ⟨rfl, rfl, rfl, Nat.le_refl _, fun _ _ _ => rfl⟩
        rw [← hW1]
        exact h1.grown (setO_grown _ _ _) (fun k hk => .inl (by simpa using hk.symm))
      have hit1 : W1.heap[B + 2]? = some (.mapIter (some m) c (seen.push en.b) c) := by
        rw [← hW1]
        exact setO_same (by rcases hw1 with rfl | rfl <;> exact hBw)
      have hFB : ∀ g, FL m S' g → g < B ∨ B + 3 ≤ g := fun g hg => by
        rcases hD.fo g hg with e | e
        · have h1 := HL.out.1.lt e; have h2 := HL.out.2.1; exact .inl (by omega)
        · exact .inr e
      have hpB : p < B := by have h1 := HL.out.1.plt; have h2 := HL.out.2.1; omega
      have hL1 : Lg W1 p m lim S' M c E' := hD.lg.keep k01 (fun g hg e => by have := hFB g hg; omega) (by omega)
      have hek := entryG hL1.mp hen hit1
      obtain ⟨q, hq⟩ := hD.lg.en en hen
      have hkv : en.k ∉ v := fun e => hns ((hD.sn en (hD.sub en hen)).mpr e)
      have hqS : S en.k = some (en.x, q) := by rw [← hD.unv _ hkv]; exact hq
      obtain ⟨K, hK⟩ : ∃ K, en.k = K := ⟨_, rfl⟩
      obtain ⟨x, hx⟩ : ∃ x, en.x = x := ⟨_, rfl⟩
      rw [hK, hx] at hnx hek hq hqS
      rw [hK] at hkv
      have hFq : ∀ g, Fq x q g → g < B ∨ B + 3 ≤ g := fun g hg => hFB g (.inr ⟨K, x, q, hq, hg⟩)
      have HDc : Hid (∀ (U : World) (q' : Nat → Qd), Kl (Fq x q) W1 U → (∀ g, Fq x q' g → Fq x q g ∨ W1.heap.size ≤ g) → U.cell? ⟨B, 0, none⟩ = some (.int .i64 S1) ∧ U.cell? ⟨B, 1, none⟩ = some (.int .i64 S2) ∧ U.cell? ⟨B + 1, 0, none⟩ = some (.bool all) ∧ ¬ Fq x q' B ∧ ¬ Fq x q' (B + 1)) := fun U q' hk hf => by
        have hs1 := k01.size
        have hnn : ∀ g, B ≤ g → g < B + 2 → ¬ Fq x q' g := fun g h1 h2 e => by
          rcases hf g e with e | e
          · have := hFq g e; omega
          · omega
        have e0 : U.heap[B]? = some (.cells #[.int .i64 S1, .int .i64 S2] 32 (0, 0)) := (hk.block B (by omega) (fun e => by have := hFq B e; omega)).trans ((k01.block B (by omega) (by omega)).trans hD.b0)
        have e1 : U.heap[B + 1]? = some (.cells #[.bool all] 4 (0, 0)) := (hk.block (B + 1) (by omega) (fun e => by have := hFq (B + 1) e; omega)).trans ((k01.block (B + 1) (by omega) (by omega)).trans hD.b1)
        exact ⟨(cell_of_row _ _ _ _ _ _ e0).trans rfl, (cell_of_row _ _ _ _ _ _ e0).trans rfl, (cell_of_row _ _ _ _ _ _ e1).trans rfl, hnn B (by omega) (by omega), hnn (B + 1) (by omega) (by omega)⟩
      have k1d : Kl (Fq x q) W1 W1.drew := ⟨rfl, rfl, rfl, Nat.le_refl _, fun _ _ _ => rfl⟩
      obtain ⟨t0, t1, t2, t3, t4⟩ := HDc.out W1.drew q k1d (fun g hg => .inl hg)
      have hd1 := ldrop (w := W1.drew) ((hL1.ln K x q hq).keep (S := fun _ => False) ⟨rfl, rfl, rfl, Nat.le_refl _, fun _ _ _ => rfl⟩ (fun _ _ e => e)) (i := 1) (by omega) (by omega) S1 S2 all t0 t1 t2 t3 t4
      obtain ⟨n1, hn1⟩ : ∃ n1, (q 1).L.length - (kp S1 S2 all (q 1).L).length = n1 := ⟨_, rfl⟩
      obtain ⟨n2, hn2⟩ : ∃ n2, (q 2).L.length - (kp S1 S2 all (q 2).L).length = n2 := ⟨_, rfl⟩
      have hdp : dsum S S1 S2 all (K :: v) = n1 + n2 + n := by
        rw [← hn1, ← hn2, ← hn]
        unfold dsum
        rw [List.map_cons, List.sum_cons, hqS]
        rfl
      have hnd : (K :: v).Nodup := List.nodup_cons.mpr ⟨hkv, hD.nd⟩
      have hNb : n1 + n2 + n ≤ 68719476736 := by
        rw [← hdp]
        have h1 := dsum_le S S1 S2 all (K :: v)
        have h2 := HL.out.2.2 _ hnd
        omega
      rw [hn1] at hd1
      have H1 : Hid (Lg W1 p m lim S' M c E' ∧ Kl (fun g => g = B + 2) wr W1 ∧ W1.heap[B + 2]? = some (.mapIter (some m) c (seen.push en.b) c) ∧ S' K = some (x, q) ∧ S K = some (x, q) ∧ (∀ g, FL m S' g → g < B ∨ B + 3 ≤ g) ∧ K ∉ v ∧ en.k = K ∧ en ∈ E' ∧ p < B ∧ B + 3 ≤ wr.heap.size ∧ (K :: v).Nodup ∧ en.b ∉ seen.toList ∧ dsum S S1 S2 all (K :: v) = n1 + n2 + n) := ⟨hL1, k01, hit1, hq, hqS, hFB, hkv, hK, hen, hpB, hBw, hnd, hns, hdp⟩
      have Hn2 : Hid ((q 2).L.length - (kp S1 S2 all (q 2).L).length = n2) := hn2
      obtain ⟨N, hN⟩ : ∃ N, n1 + n2 = N := ⟨_, rfl⟩
      obtain ⟨N2, hN2⟩ : ∃ N2, n + N = N2 := ⟨_, rfl⟩
      have hw1' : (n1 : Int) + (n2 : Int) = (N : Int) := by omega
      have hw2' : (n : Int) + (N : Int) = (N2 : Int) := by omega
      have hNN : N2 ≤ 68719476736 := by omega
      have hNNa : N ≤ 68719476736 := by omega
      have hwN : IntKind.i64.wrap (N : Int) = (N : Int) := by rw [IntKind.wrap_i64]; omega
      have hwN2 : IntKind.i64.wrap (N2 : Int) = (N2 : Int) := by rw [IntKind.wrap_i64]; omega
      have HN2 : Hid (n1 + n2 + n = N2) := by show _ = _; omega
      clear hD hn hnx0 hW1 hBw k01 hit1 hFB hL1 hq hqS hkv hK hx hFq k1d t0 t1 t2 t3 t4 hn1 hn2 hdp hnd hNb hN hN2 hen hns hw1
      go_wp2_with fail
      go_region_held3 (fun _ => True)
        (trivial)
        (first
          | (go_at_call 33
             refine hd2.mono ?_
             rintro e U2 ⟨rfl, d2, e2, l2, f2, k2⟩
             have H3 : Hid (d2.L = kp S1 S2 all (q 2).L ∧ Ln U2 x (upq (upq q 1 d1) 2 d2) M ∧ (∀ g, Fq x (upq (upq q 1 d1) 2 d2) g → Fq x (upq q 1 d1) g ∨ U1.heap.size ≤ g) ∧ Kl (Fq x (upq q 1 d1)) U1 U2) := ⟨e2, l2, f2, k2⟩
             clear e2 l2 f2 k2)
          | (go_at_call 33
             refine hd1.mono ?_
             rintro e U1 ⟨rfl, d1, e1, l1, f1, k1⟩
             have H2 : Hid (d1.L = kp S1 S2 all (q 1).L ∧ Ln U1 x (upq q 1 d1) M ∧ (∀ g, Fq x (upq q 1 d1) g → Fq x q g ∨ W1.heap.size ≤ g) ∧ Kl (Fq x q) W1 U1) := ⟨e1, l1, f1, ⟨k1.os, k1.tape, k1.output, k1.size, k1.block⟩⟩
             obtain ⟨t0, t1, t2, t3, t4⟩ := HDc.out U1 (upq q 1 d1) H2.out.2.2.2 H2.out.2.2.1
             have hd2 := ldrop l1 (i := 2) (by omega) (by omega) S1 S2 all t0 t1 t2 t3 t4
             rw [upq_other q d1 (show (2 : Nat) ≠ 1 by omega), Hn2.out] at hd2
             clear e1 l1 f1 k1 t0 t1 t2 t3 t4))
      have LU1 : Lg U1 p m lim (setS S' K (some (x, upq q 1 d1))) M c E' := H1.out.1.line H1.out.2.2.2.1 (Nat.le_refl _) H2.out.2.1 H2.out.2.2.2 (fun g e => .inl e) H2.out.2.2.1
      have LU2 : Lg U2 p m lim (setS S' K (some (x, upq (upq q 1 d1) 2 d2))) M c E' := by
        have := LU1.line (setS_same _ _ _) (Nat.le_refl _) H3.out.2.1 H3.out.2.2.2 (fun g e => .inl e) H3.out.2.2.1
        rwa [setS_twice'] at this
      have hfg := forgetG U2 p m lim K _ M c E' LU2 (by omega)
      have HLL : Hid (Lg U1 p m lim (setS S' K (some (x, upq q 1 d1))) M c E' ∧ Lg U2 p m lim (setS S' K (some (x, upq (upq q 1 d1) 2 d2))) M c E') := ⟨LU1, LU2⟩
      clear LU1 LU2 hd1 hd2
      go_wp2_with fail
      refine hfg.mono ?_
      rintro e U3 ⟨⟨u, rfl⟩, S3, E3, hF⟩
      have HP : Hid (U3.heap[B + 2]? = some (.mapIter (some m) c (seen.push en.b) c) ∧ ∃ S' E' seen v, dsum S S1 S2 all v = N2 ∧ DpS w U3 p m B lim S S' M c E E' seen v S1 S2 all) := by
        obtain ⟨a1, a2, a3, a4, a5, a6, a7, a8, a9, a10, a11, a12, a13, a14⟩ := H1.out
        obtain ⟨b1, b2, b3, b4⟩ := H2.out
        obtain ⟨c1, c2, c3, c4⟩ := H3.out
        have hD := HD.out.1
        have hs1 := a2.size
        have hs2 := b4.size
        have hs3 := c4.size
        have hin : ∀ g, Fq x q g → FL m S' g := fun g hg => .inr ⟨K, x, q, a4, hg⟩
        have hn1 : ∀ g, g < B + 3 → B ≤ g → ¬ Fq x q g := fun g h1 h2 e => by have := a6 g (hin g e); omega
        have hn2 : ∀ g, g < B + 3 → B ≤ g → ¬ Fq x (upq q 1 d1) g := fun g h1 h2 e => by
          rcases b3 g e with e | e
          · exact hn1 g h1 h2 e
          · omega
        have hmB : m < B := by have h1 := HL.out.1.mlt; have h2 := HL.out.2.1; omega
        have tr : ∀ g, B ≤ g → g < B + 3 → U3.heap[g]? = W1.heap[g]? := fun g h0 h1 => (hF.kl.block g (by omega) (by omega)).trans ((c4.block g (by omega) (hn2 g h1 h0)).trans (b4.block g (by omega) (hn1 g h1 h0)))
        have hR := (tr (B + 2) (by omega) (by omega)).trans a3
        refine ⟨hR, S3, E3, seen.push en.b, K :: v, by rw [a14]; exact HN2.out, hF.lg, ?_, fun g hg => ?_, hR, ?_, ?_, fun K' hK' => ?_, fun K' hK' => ?_, a12, fun e he => ?_, fun e he => ?_⟩
        · refine (((hD.kl.then a2 (fun g hg e => ?_)).then b4 (fun g hg e => ?_)).then c4 (fun g hg e => ?_)).then hF.kl (fun g _ e => .inl e)
          · have := HL.out.2.1; omega
          · exact .inr ⟨K, x, q, a5, e⟩
          · rcases b3 g e with e | e
            · exact .inr ⟨K, x, q, a5, e⟩
            · have := HL.out.2.1; omega
        · rcases hF.fo g hg with e | ⟨K', x', q', hs, hg'⟩
          · exact .inl (.inl e)
          · by_cases e3 : K' = K
            · subst e3
              rw [setS_same] at hs
              cases hs
              rcases c3 g hg' with e | e
              · rcases b3 g e with e | e
                · exact hD.fo g (hin g e)
                · exact .inr (by omega)
              · exact .inr (by omega)
            · rw [setS_other S' _ e3] at hs
              exact hD.fo g (.inr ⟨K', x', q', hs, hg'⟩)
        · exact (tr B (by omega) (by omega)).trans ((a2.block B (by omega) (by omega)).trans hD.b0)
        · exact (tr (B + 1) (by omega) (by omega)).trans ((a2.block (B + 1) (by omega) (by omega)).trans hD.b1)
        · rcases List.mem_cons.mp hK' with e | hK'
          · subst e
            rw [hF.wt _ 0 (by omega), hF.wt _ 1 (by omega), hF.wt _ 2 (by omega), setS_same, a5]
            refine ⟨rfl, ?_, ?_⟩
            · show (upq (upq q 1 d1) 2 d2 1).L = _
              rw [upq_other _ d2 (by omega), upq_same, b1]
              rfl
            · show (upq (upq q 1 d1) 2 d2 2).L = _
              rw [upq_same, c1]
              rfl
          · have e3 : K' ≠ K := fun e => a7 (e ▸ hK')
            rw [hF.ot K' e3, setS_other S' _ e3]
            exact hD.vis K' hK'
        · have e3 : K' ≠ K := fun e => hK' (e ▸ List.mem_cons_self)
          rw [hF.ot K' e3, setS_other S' _ e3]
          exact hD.unv K' (fun e => hK' (List.mem_cons_of_mem _ e))
        · refine hD.sub e ?_
          rcases hF.ee with e3 | e3
          · rw [e3] at he; exact he
          · rw [e3] at he; exact (mem_noK.mp he).1
        · rw [Array.toList_push, List.mem_append, List.mem_singleton, List.mem_cons, hD.sn e he]
          have hE : e.b = en.b ↔ e.k = K := by
            have hen := hD.sub en a9
            have nd := HL.out.1.mp.nd
            have bn := HL.out.1.mp.bn
            rw [← a8]
            refine ⟨fun hb => ?_, fun hb => ?_⟩
            · rw [map_inj bn he hen hb]
            · rw [map_inj nd he hen hb]
          rw [hE]
          exact Or.comm
      clear hfg hF
      go_wp2
      go_roundw
      case rel => exact ⟨N2, by go_num, HP.out.2⟩
      case measure =>
        rw [HD.out.1.it, HP.out.1]
        refine filt_lt (fun z _ hz => ?_) ⟨en, HD.out.1.sub en H1.out.2.2.2.2.2.2.2.2.1, by simpa using H1.out.2.2.2.2.2.2.2.2.2.2.2.2.1, by simp⟩
        simp at hz ⊢
        exact hz.1

end Go.Proofs.YtdfdaambfihjaaaDoor.L
